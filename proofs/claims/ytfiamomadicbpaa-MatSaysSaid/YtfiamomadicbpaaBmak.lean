/-
  Rows of counts made: noughts, a copy, one more, put together.
-/
import Derived.Test.YtfiamomadicbpaaBcal
namespace Go.Proofs.Ytfiamomadicbpaa
open Go.RowKit

/-- A call that gives a row in memory of its own. -/
def NewQ (W : World) (xs : List Nat) (e : Ending) (w' : World) : Prop :=
  ∃ a cap, e = .returned (.slice a xs.length cap) ∧ SlAt qV QM w' a cap xs ∧ Below W.heap.size W w' ∧ (∀ ad, a = some ad → W.heap.size ≤ ad.block) ∧ w'.ownsRow W.heap.size 30 1 (.slice a xs.length cap) xs.length (xs.map qV)
/-- .. and whether. -/
def NewQb (W : World) (xs : List Nat) (b : Bool) (e : Ending) (w' : World) : Prop :=
  ∃ a cap, e = .returned (.tuple #[.slice a xs.length cap, .bool b]) ∧ SlAt qV QM w' a cap xs ∧ Below W.heap.size W w' ∧ (∀ ad, a = some ad → W.heap.size ≤ ad.block) ∧ w'.ownsRow W.heap.size 30 1 (.slice a xs.length cap) xs.length (xs.map qV)

theorem info_q {i? : Option TypeInfo} {z : Value} {s b : Nat} (h : i?.map (fun i => (i.zero, i.size, i.bytes)) = some (some z, s, b)) : ∃ i, i? = some i ∧ i.zero = some z ∧ i.size = s ∧ i.bytes = b := by
  cases i? with
  | none => simp at h
  | some i => simp at h; exact ⟨i, rfl, h.1, h.2.1, h.2.2⟩

theorem zeros_at (n i : Nat) : atN (List.replicate n 0) i = 0 := by
  by_cases h : i < n
  · rw [atN_of (by simpa using h)]; simp
  · exact atN_out (by simp; omega)
theorem zeros_lt (n : Nat) : ∀ x ∈ List.replicate n 0, x < QM := fun x hx => by rw [(List.mem_replicate.1 hx).2]; decide

theorem Try.sizeQ : (Try.prog.info? 30).map (·.size) = some 1 := by kernel_rfl

def newN (z : Int) : Nat := (min (max z 0) 64).toNat
set_option maxRecDepth 20000 in
theorem vnew_any (W : World) (z : Int) {n : Nat} (hn : newN z = n) : Calls Try.prog 28 #[.int .i64 z] W (NewQ W (List.replicate n 0)) := by
  have h64 : n ≤ 64 := by subst hn; unfold newN; omega
  have hz : min (max z 0) 64 = (n : Int) := by subst hn; unfold newN; omega
  have R := Lib.hid (show NewQ W (List.replicate n 0) (.returned (.slice (some ⟨W.heap.size, 0, none⟩) n n)) (W.alloc (.cells (madeCells #[.int .u64 0] n) 30)) from by
    have h := (RowQ.made W n).sl (zeros_lt n) (by unfold maxLen; simp; omega)
    rw [List.length_replicate] at h
    exact ⟨some ⟨W.heap.size, 0, none⟩, n, by rw [List.length_replicate], h, below_alloc (Below.refl _ _) _, (fun ad e => by cases e; exact Nat.le_refl _), by
      have h := (RowQ.made W n).own (Nat.le_refl _) (by unfold maxLen; simp; omega)
      rw [List.length_replicate] at h ⊢
      exact h⟩)
  clear hn
  by_cases h1 : z < 0
  · obtain rfl : n = 0 := by omega
    have hmk := make_vec (z := 0) 0 rfl (by omega)
    go_enter Try.func28, Try.ntmps28
    go_wp2_with fail
    go_ret
    exact R.out
  · have g1 : ¬ (0 : Int) > z := by omega
    by_cases h2 : z > 64
    · obtain rfl : n = 64 := by omega
      have hmk := make_vec (z := 64) 64 rfl (by omega)
      have g2 : (64 : Int) < z := h2
      go_enter Try.func28, Try.ntmps28
      go_wp2_with fail
      go_ret
      exact R.out
    · obtain rfl : z = n := by omega
      have hmk := make_vec n rfl (by omega)
      have g2 : ¬ (64 : Int) < (n : Int) := h2
      have g3 : ¬ 64 < n := by omega
      go_enter Try.func28, Try.ntmps28
      go_wp2_with fail
      go_ret
      exact R.out
set_option maxRecDepth 20000 in
set_option maxHeartbeats 2000000 in
theorem vclone_any {W : World} {a : Option Addr} {cap n : Nat} {xs : List Nat} (h : SlAt qV QM W a cap xs) (hn : xs.length = n) (hl : n ≤ 1000000) :
    Calls Try.prog 45 #[.slice a n cap] W (NewQ W xs) := by
  obtain ⟨i0, hi0, hz0, hz1, hz2⟩ := info_q Try.infoQ
  subst hn
  cases a with
  | none =>
    obtain ⟨h0, h1⟩ := h.empty rfl
    obtain rfl : xs = [] := List.length_eq_zero_iff.1 h0
    subst h1
    have P := Lib.hid (show NewQ W [] (.returned (.slice none 0 0)) W from ⟨none, 0, rfl, h, Below.refl _ _, (fun ad e => by cases e), World.ownsRow_nil _ _ _ _⟩)
    clear h hl h0
    have he : ∀ w : World, (binOp .eql 39 (.slice none 0 0) (.slice none 0 0)).run Try.prog w = .ok (.bool true) w := fun _ => rfl
    go_enter Try.func45, Try.ntmps45
    go_wp2_with fail
    go_ret
    exact P.out
  | some ad =>
    have S := Lib.hid h
    clear h
    generalize hn : xs.length = n at *
    have X := Lib.hid hn
    clear hn
    have he : ∀ w : World, (binOp .eql 39 (.slice (some ad) n cap) (.slice none 0 0)).run Try.prog w = .ok (.bool false) w := fun _ => rfl
    have O := Lib.hid (World.ownsRow_lit (base := W.heap.size) (e := 30) (size := 1) W #[] 0 (Nat.le_refl _) (by unfold maxLen; omega) rfl)
    go_enter Try.func45, Try.ntmps45
    go_wp2_with (at_builtin; refine wpList_append_at rfl (.tmp 5) (.tmp 6) 39 rfl W.heap.size 30 i0 (.int .u64 0) 1 8 Try.underlying39 hi0 hz0 hz1 hz2 rfl (by decide) _ _ _ rfl O.out _ _ _ (xs.map qV) rfl (by have := X.out; simp [this]) (fun e => by cases e) (S.out.below ((Below.refl _ _).alloc (Nat.le_refl _) _)).news (ones_q _) (by unfold maxLen; omega) (by omega) (by simp) ?_
                 intro v2 w2 hown2 hgr2 hat2
                 have hb2 : Below W.heap.size W w2 := ((Below.refl _ _).alloc (Nat.le_refl _) _).grown hgr2 (by simp) (fun k h => (O.out.lt k h).1)
                 try rw [Nat.zero_add, List.nil_append] at hown2
                 obtain ⟨a2, cap2, rfl⟩ := own_form hown2
                 obtain ⟨-, a3, cap3, e3, hs3⟩ := own_sl hown2 S.out.lt
                 have R := Lib.hid (show NewQ W xs (.returned (.slice a2 n cap2)) w2 from by
                   rw [X.out] at e3
                   cases e3
                   exact ⟨a2, cap2, by rw [X.out], hs3, hb2, (fun ad e => by subst e; exact (hown2.lt ad.block rfl).1), by rw [X.out]; exact hown2⟩)
                 clear hown2 hgr2 hb2 hat2 hs3 e3)
    go_ret
    exact R.out

theorem splice_zeros {xs : List Nat} {m : Nat} : splice ((List.replicate m 0).map qV) 0 (xs.map qV) = ((xs ++ List.replicate (m - xs.length) 0).map qV) := by
  unfold splice
  simp
/-- copy over noughts. -/
theorem run_copy_vec {w : World} {g m n cap : Nat} {a : Option Addr} {xs : List Nat} (hr : RowQ w g (List.replicate m 0)) (h : SlAt qV QM w a cap xs) (hn : xs.length = n) (hm : n ≤ m) :
    ∃ w2, (Builtin.copy_ #[39, 39] 3 #[.slice (some ⟨g, 0, none⟩) m m, .slice a n cap]).run Try.prog w = .ok (goInt n) w2 ∧ RowQ w2 g (xs ++ List.replicate (m - xs.length) 0) ∧ Below g w w2 := by
  subst hn
  by_cases h0 : xs.length = 0
  · obtain rfl : xs = [] := List.length_eq_zero_iff.1 h0
    exact ⟨w, run_copy_none (P := Try.prog) w 39 39 3 30 (some ⟨g, 0, none⟩) a m m 0 cap Try.underlying39 Try.sizeQ (Nat.zero_min _), by simpa using hr, Below.refl _ _⟩
  · obtain ⟨b, off, rfl, -⟩ := h.cell 0 (by omega)
    have e := run_copy_row (P := Try.prog) w 39 39 3 30 g 0 m m ⟨b, off, none⟩ xs.length cap ((List.replicate m 0).map qV).toArray 30 (xs.map qV) Try.underlying39 Try.sizeQ hr
      (by rw [List.length_map]; exact (Nat.min_eq_left hm).symm) (h.news _ rfl) (by simp; omega) (ones_q _)
    rw [List.length_map] at e
    refine ⟨_, e, ?_, below_setRow (Below.refl _ _) (Nat.le_refl _) _⟩
    refine (setRow_heap w g _ _ 30 _ hr).trans ?_
    have := splice_zeros (xs := xs) (m := m)
    unfold splice at this
    rw [List.length_map, ← List.append_assoc] at this
    rw [← this]

theorem pad_at {xs : List Nat} {m : Nat} (i : Nat) : atN (xs ++ List.replicate m 0) i = atN xs i := by
  by_cases h : i < xs.length
  · rw [atN_of h, atN_of (by simp; omega), List.getElem_append_left h]
  · rw [atN_out (xs := xs) (by omega)]
    by_cases h2 : i < (xs ++ List.replicate m 0).length
    · rw [atN_of h2, List.getElem_append_right (by omega)]; simp
    · exact atN_out (by omega)
theorem set_at {xs : List Nat} {i v k : Nat} (h : i < xs.length) : atN (xs.set i v) k = if k = i then v else atN xs k := by
  by_cases hk : k < xs.length
  · rw [atN_of (by simpa using hk), List.getElem_set, atN_of hk]
    by_cases e : k = i
    · subst e; simp
    · rw [if_neg (fun h => e h.symm), if_neg e]
  · rw [atN_out (by simp; omega), atN_out (xs := xs) (by omega), if_neg (by omega)]
theorem up_set {xs : List Nat} {i m : Nat} (hm : m = max xs.length (i + 1)) : (xs ++ List.replicate (m - xs.length) 0).set i (atN xs i + 1) = upL xs i := by
  refine row_ext (by rw [upL_length]; simp; omega) fun k _ => ?_
  rw [set_at (by simp; omega), pad_at, upL_at]
  split
  · subst_vars; rfl
  · rfl

/-- What the world behind make and copy tells. -/
theorem up_store {W w2 : World} {g m i v : Nat} {xs : List Nat} (hm : m = max xs.length (i + 1)) (hR : RowQ w2 g (xs ++ List.replicate (m - xs.length) 0)) (hb : Below W.heap.size W w2) (hg : W.heap.size ≤ g) (hx : ∀ x ∈ xs, x < QM) (hv : v = atN xs i + 1) (hlt : v < QM) (h64 : m ≤ 1000000) :
    NewQb W (upL xs i) true (.returned (.tuple #[.slice (some ⟨g, 0, none⟩) m m, .bool true])) (w2.setCell ⟨g, i, none⟩ (.int .u64 (v : Int))) := by
  subst hv
  have h1 : RowQ (w2.setCell ⟨g, i, none⟩ (.int .u64 ((atN xs i + 1 : Nat) : Int))) g (upL xs i) := (hR.set i _).conv (up_set hm)
  have hl : (upL xs i).length = m := by rw [upL_length, hm]
  have h2 := h1.sl (M := QM) (upL_lt hx hlt) (by rw [hl]; unfold maxLen; omega)
  rw [hl] at h2
  exact ⟨_, m, by rw [hl], h2, hb.setCell hg _, (fun ad e => by cases e; exact hg), by
    have h := h1.own hg (by rw [hl]; unfold maxLen; omega)
    rw [hl] at h ⊢
    exact h⟩

set_option maxRecDepth 20000 in
set_option maxHeartbeats 2000000 in
theorem vup_any {W : World} {a : Option Addr} {cap n : Nat} {xs : List Nat} {z : Int} (h : SlAt qV QM W a cap xs) (hn : xs.length = n) (hl : n ≤ 100000) {b : Bool} (hb : mayUp xs z = b) {r : List Nat} (hr : upR xs z = r) :
    Calls Try.prog 33 #[.slice a n cap, .int .i64 z] W (NewQb W r b) := by
  have CA := Lib.hid (vat_any (z := z) h hn rfl)
  have CC := Lib.hid (vclone_any h hn (by omega))
  have S := Lib.hid h
  have HN := Lib.hid hn
  clear h hn
  by_cases h0 : z < 0
  · have d0 : decide (z < 0) = true := decide_eq_true h0
    obtain rfl : b = false := by rw [← hb]; exact mayUp_low h0
    rw [upR_no hb] at hr
    subst hr
    clear h0 hb
    go_enter Try.func33, Try.ntmps33
    go_wp2_with fail
    refine CC.out.mono ?_
    rintro e w1 ⟨a1, c1, rfl, h1, h2, h3⟩
    have R := Lib.hid (show NewQb W xs false (.returned (.tuple #[.slice a1 xs.length c1, .bool false])) w1 from ⟨a1, c1, rfl, h1, h2, h3⟩)
    clear h1 h2 h3
    go_wp2_with fail
    go_ret2
    exact R.out
  · have d0 : decide (z < 0) = false := decide_eq_false h0
    by_cases h1 : z ≥ 64
    · have d1 : decide (z ≥ 64) = true := decide_eq_true h1
      obtain rfl : b = false := by rw [← hb]; exact mayUp_high h1
      rw [upR_no hb] at hr
      subst hr
      clear h0 h1 hb
      go_enter Try.func33, Try.ntmps33
      go_wp2_with fail
      refine CC.out.mono ?_
      rintro e w1 ⟨a1, c1, rfl, h1, h2, h3⟩
      have R := Lib.hid (show NewQb W xs false (.returned (.tuple #[.slice a1 xs.length c1, .bool false])) w1 from ⟨a1, c1, rfl, h1, h2, h3⟩)
      clear h1 h2 h3
      go_wp2_with fail
      go_ret2
      exact R.out
    · have d1 : decide (z ≥ 64) = false := decide_eq_false h1
      obtain ⟨i, rfl⟩ : ∃ i : Nat, z = i := ⟨z.toNat, by omega⟩
      by_cases hf : atN xs i = 18446744073709551615
      · obtain rfl : b = false := by rw [← hb]; exact mayUp_full (by rw [atZ_nat]; exact hf)
        rw [upR_no hb] at hr
        subst hr
        rw [atZ_nat, hf] at CA
        clear h0 h1 hb hf
        go_enter Try.func33, Try.ntmps33
        go_wp2_with fail
        refine CA.out.mono ?_
        rintro e w' ⟨rfl, rfl⟩
        go_wp2_with fail
        refine CC.out.mono ?_
        rintro e w1 ⟨a1, c1, rfl, h1, h2, h3⟩
        have R := Lib.hid (show NewQb W xs false (.returned (.tuple #[.slice a1 xs.length c1, .bool false])) w1 from ⟨a1, c1, rfl, h1, h2, h3⟩)
        clear h1 h2 h3
        go_wp2_with fail
        go_ret2
        exact R.out
      · obtain rfl : b = true := by rw [← hb]; exact mayUp_yes (by omega) hf
        rw [upR_yes hb] at hr
        subst hr
        rw [atZ_nat] at CA
        have hlt : atN xs i < 18446744073709551616 := atN_lt (show 0 < QM by decide) S.out.lt i
        obtain ⟨m, hm⟩ : ∃ m, m = max n (i + 1) := ⟨_, rfl⟩
        have HMX := Lib.hid hm
        have hm1 : i + 1 ≤ m := by omega
        have hm2 : n ≤ m := by omega
        have hm3 : m ≤ 1000000 := by omega
        have df : (((atN xs i : Nat) : Int) == 18446744073709551615) = false := beq_false_of_ne (by omega)
        have R0 := Lib.hid (RowQ.made W m)
        have B0 := Lib.hid (below_alloc (Below.refl _ W) (.cells (madeCells #[.int .u64 0] m) 30))
        have S0 := Lib.hid (S.out.below B0.out)
        have i0 : (0 : Int) ≤ (i : Int) := by omega
        have i1 : (i : Int) < (m : Int) := by omega
        have FIN := Lib.hid (fun w2 (hR : RowQ w2 W.heap.size (xs ++ List.replicate (m - xs.length) 0)) (hb : Below W.heap.size W w2) => up_store (v := atN xs i + 1) (by rw [HN.out]; exact HMX.out) hR hb (Nat.le_refl _) S.out.lt rfl (show atN xs i + 1 < 18446744073709551616 by omega) hm3)
        have CELL := Lib.hid (fun w2 (hR : RowQ w2 W.heap.size (xs ++ List.replicate (m - xs.length) 0)) => show w2.cell? ⟨W.heap.size, i, none⟩ = some (.int .u64 ((atN xs i : Nat) : Int)) from by
          have := hR.at (i := i) (by have := HN.out; simp; omega)
          rw [pad_at] at this
          exact this)
        have wv : IntKind.u64.wrap (((atN xs i : Nat) : Int) + 1) = ((atN xs i + 1 : Nat) : Int) := by
          rw [wrapQ (by omega)]; omega
        have hcase : (((i : Int) + 1 > (n : Int)) ∧ (n : Int) < (i : Int) + 1 ∧ n < i + 1 ∧ ((m : Int) = (i : Int) + 1)) ∨ ((¬ ((i : Int) + 1 > (n : Int))) ∧ ¬ (n : Int) < (i : Int) + 1 ∧ ¬ n < i + 1 ∧ ((m : Int) = (n : Int))) := by omega
        have CP := Lib.hid (run_copy_vec R0.out S0.out HN.out hm2)
        clear hm hlt h0 h1 hb hf
        generalize atN xs i = v at *
        generalize v + 1 = v1 at *
        rcases hcase with ⟨c1, c2, c3, c4⟩ | ⟨c1, c2, c3, c4⟩
        all_goals
          have hmk := make_vec m c4 hm3
          clear c4
          go_enter Try.func33, Try.ntmps33
          go_wp2_with fail
          refine CA.out.mono ?_
          rintro e w' ⟨rfl, rfl⟩
          clear CA
          obtain ⟨w2, hcp, hR2, hb2⟩ := CP.out
          have R2 := Lib.hid hR2
          have d2 := CELL.out w2 R2.out
          have f2 := R2.out.fz i
          have R := Lib.hid (FIN.out w2 R2.out (B0.out.trans (hb2.mono (by simp))))
          clear hR2 hb2
          go_wp2_with fail
          go_ret2
          exact R.out

end Go.Proofs.Ytfiamomadicbpaa
