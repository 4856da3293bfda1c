/-
  Texts of this claim, put together.
-/
import Derived.Test.YtopnagjbdjicaaaBmemm
import Derived.Deep.QuietTactic
import Derived.BigQuiet
import Derived.Test.YtopnagjbdjicaaaMac

/-
  Counts read; whether one row is at most another; rows compared; alike.
-/
namespace Go.Proofs.Ytopnagjbdjicaaa
open Go.RowKit



set_option maxRecDepth 20000 in
set_option maxHeartbeats 2000000 in
theorem vat_any {W : World} {a : Option Addr} {cap n : Nat} {xs : List Nat} {z : Int} (h : SlAt qV QM W a cap xs) (hn : xs.length = n) {v : Nat} (hv : atZ xs z = v) :
    Calls Try.prog 48 #[.slice a n cap, .int .i64 z] W fun e w' => e = .returned (.int .u64 (v : Int)) ∧ W = w' := by
  subst hn hv
  have hfit := h.fit
  have hmax := h.max
  unfold maxLen at hmax
  have S := Lib.hid h
  clear h
  by_cases h0 : z < 0
  · have d0 : decide (z < 0) = true := decide_eq_true h0
    rw [atZ_neg h0]
    clear h0
    go_enter Try.func48, Try.ntmps48
    go_wp2_with fail
    go_ret
    exact ⟨rfl, rfl⟩
  · obtain ⟨i, rfl⟩ : ∃ i : Nat, z = i := ⟨z.toNat, by omega⟩
    have d0 : decide ((i : Int) < 0) = false := decide_eq_false h0
    rw [atZ_nat]
    by_cases h1 : i < xs.length
    · obtain ⟨b, off, rfl, hb, hc⟩ := S.out.at h1
      have d1 : decide ((i : Int) ≥ (xs.length : Int)) = false := decide_eq_false (by omega)
      have i0 : (0 : Int) ≤ (i : Int) := by omega
      have i1 : (i : Int) < (xs.length : Int) := by omega
      have hc' : W.cell? ⟨b, off + i, none⟩ = some (.int .u64 ((atN xs i : Nat) : Int)) := hc
      clear hc
      generalize atN xs i = v at *
      go_enter Try.func48, Try.ntmps48
      go_wp2_with fail
      go_ret
      exact ⟨rfl, rfl⟩
    · have d1 : decide ((i : Int) ≥ (xs.length : Int)) = true := decide_eq_true (by omega)
      rw [atN_out (by omega)]
      go_enter Try.func48, Try.ntmps48
      go_wp2_with fail
      go_ret
      exact ⟨rfl, rfl⟩

set_option maxRecDepth 20000 in
set_option maxHeartbeats 2000000 in
theorem vwithin_any {W : World} {a1 a2 : Option Addr} {c1 c2 n m : Nat} {xs ys : List Nat} (h1 : SlAt qV QM W a1 c1 xs) (h2 : SlAt qV QM W a2 c2 ys) (hn : xs.length = n) (hm : ys.length = m) {r : Bool} (hr : wiB xs ys = r) :
    Calls Try.prog 81 #[.slice a1 n c1, .slice a2 m c2] W fun e w' => e = .returned (.bool r) ∧ W = w' := by
  have hfit := h1.fit
  have hmax := h1.max
  unfold maxLen at hmax
  have A := Lib.hid h1
  have B := Lib.hid h2
  have HN := Lib.hid hn
  have HM := Lib.hid hm
  have HR := Lib.hid hr
  clear h1 h2 hm hr
  subst hn
  go_enter Try.func81, Try.ntmps81
  go_wp2_with fail
  go_loop [9] (fun v => ∃ k : Nat, k ≤ xs.length ∧ v = .int .i64 (k : Nat) ∧ Hid (∀ j, j < k → atN xs j ≤ atN ys j)) (fun v => xs.length - (intOf v).toNat)
  case atStart => exact ⟨0, Nat.zero_le _, rfl, Lib.hid fun j hj => by omega⟩
  case round =>
    obtain ⟨k, hk, rfl, hT⟩ := hrel
    by_cases hlt : k < xs.length
    · obtain ⟨b, off, rfl, hb, hc⟩ := A.out.at hlt
      have hc' : W.cell? ⟨b, off + k, none⟩ = some (.int .u64 ((atN xs k : Nat) : Int)) := hc
      clear hc
      have CA := Lib.hid (vat_any (z := (k : Int)) B.out HM.out (atZ_nat ys k))
      have i0 : (0 : Int) ≤ (k : Int) := by omega
      have i1 : (k : Int) < (xs.length : Int) := by omega
      
      have hle := Lib.hid (fun (h : atN xs k ≤ atN ys k) => show ∀ j, j < k + 1 → atN xs j ≤ atN ys j from fun j hj => by
        by_cases e : j = k
        · subst e; exact h
        · exact hT.out j (by omega))
      have hgt := Lib.hid (fun (h : atN ys k < atN xs k) => show r = false from by rw [← HR.out]; exact wiB_no h)
      generalize atN xs k = x at *
      generalize atN ys k = y at *
      by_cases hxy : y < x
      · have d : decide ((x : Int) > (y : Int)) = true := decide_eq_true (by omega)
        have d' : decide (y < x) = true := decide_eq_true hxy
        have R := Lib.hid (hgt.out hxy)
        clear hxy
        go_wp2_with (go_at_call 48; refine CA.out.mono ?_; rintro e w' ⟨rfl, rfl⟩)
        go_ret
        exact ⟨by rw [R.out]; rfl, rfl⟩
      · have d : decide ((x : Int) > (y : Int)) = false := decide_eq_false (by omega)
        have d' : decide (y < x) = false := decide_eq_false hxy
        have R := Lib.hid (hle.out (by omega))
        clear hxy
        go_wp2_with (go_at_call 48; refine CA.out.mono ?_; rintro e w' ⟨rfl, rfl⟩)
        go_round
        case rel => exact ⟨k + 1, by omega, by go_num, R⟩
        case measure => simp only [intOf]; omega
    · have R := Lib.hid (show r = true from by
        rw [← HR.out]
        refine wiB_iff.2 fun i => ?_
        by_cases hi : i < xs.length
        · exact hT.out i (by omega)
        · rw [atN_out (by omega)]; exact Nat.zero_le _)
      go_wp2_with fail
      go_ret
      exact ⟨by rw [R.out]; rfl, rfl⟩

set_option maxRecDepth 20000 in
set_option maxHeartbeats 2000000 in
theorem vcmp_any {W : World} {a1 a2 : Option Addr} {c1 c2 n m : Nat} {xs ys : List Nat} (h1 : SlAt qV QM W a1 c1 xs) (h2 : SlAt qV QM W a2 c2 ys) (hn : xs.length = n) (hm : ys.length = m) {z : Int} (hz : cmpZ xs ys = z) :
    Calls Try.prog 62 #[.slice a1 n c1, .slice a2 m c2] W fun e w' => e = .returned (.int .i64 z) ∧ W = w' := by
  have C1 := Lib.hid (vwithin_any h1 h2 hn hm rfl)
  have C2 := Lib.hid (vwithin_any h2 h1 hm hn rfl)
  have HZ := Lib.hid (show z = if wiB xs ys then if wiB ys xs then 0 else -1 else if wiB ys xs then 1 else 2 from by rw [← hz]; exact cmpZ_of rfl rfl)
  clear h1 h2 hn hm hz
  generalize wiB xs ys = p at *
  generalize wiB ys xs = q at *
  go_enter Try.func62, Try.ntmps62
  go_wp2_with fail
  refine C1.out.mono ?_
  rintro e w' ⟨rfl, rfl⟩
  go_wp2_with fail
  refine C2.out.mono ?_
  rintro e w' ⟨rfl, rfl⟩
  clear C1 C2
  cases p <;> cases q
  all_goals go_wp2_with fail
  all_goals go_ret
  all_goals exact ⟨by rw [HZ.out]; rfl, rfl⟩

theorem rows_same {xs ys : List Nat} {k : Nat} (h : xs.take k = ys.take k) (hx : k < xs.length) (hy : k < ys.length) (e : atN xs k = atN ys k) : xs.take (k + 1) = ys.take (k + 1) := by
  rw [atN_of hx, atN_of hy] at e
  rw [List.take_succ_eq_append_getElem hx, List.take_succ_eq_append_getElem hy, h, e]

set_option maxRecDepth 20000 in
set_option maxHeartbeats 2000000 in
theorem longs_any {W : World} {a1 a2 : Option Addr} {c1 c2 n m : Nat} {xs ys : List Nat} (h1 : SlAt qV QM W a1 c1 xs) (h2 : SlAt qV QM W a2 c2 ys) (hn : xs.length = n) (hm : ys.length = m) {r : Bool} (hr : decide (xs = ys) = r) :
    Calls Try.prog 15 #[.slice a1 n c1, .slice a2 m c2] W fun e w' => e = .returned (.bool r) ∧ ∃ q, w' = W.drewN q := by
  have hfa := h1.fit
  have hma := h1.max
  have hfb := h2.fit
  have hmb := h2.max
  unfold maxLen at hma hmb
  have A := Lib.hid h1
  have B := Lib.hid h2
  clear h1 h2
  subst hn hm hr
  go_enter Try.func15, Try.ntmps15
  by_cases hl : xs.length = ys.length
  · go_wp2_with fail
    go_loopw [5] (fun i wr => ∃ (k q : Nat), k ≤ xs.length ∧ i = .int .i64 (k : Nat) ∧ wr = W.drewN q ∧ Hid (xs.take k = ys.take k)) (fun i _ => xs.length - (intOf i).toNat)
    case atStart => exact ⟨0, 0, Nat.zero_le _, rfl, rfl, rfl⟩
    case round =>
      obtain ⟨k, q, hk, rfl, rfl, hc⟩ := hrel
      by_cases hlt : k < xs.length
      · obtain ⟨b, off, rfl, hbW, hcx⟩ := A.out.at hlt
        obtain ⟨b2, off2, rfl, hbW2, hcy⟩ := B.out.at (show k < ys.length by omega)
        have k1 : (W.drewN q).cell? ⟨b, off + k, none⟩ = some (.int .u64 ((atN xs k : Nat) : Int)) := hcx
        have k2 : (W.drewN q).cell? ⟨b2, off2 + k, none⟩ = some (.int .u64 ((atN ys k : Nat) : Int)) := hcy
        clear hcx hcy
        have hQ := Lib.hid (fun n => (show ∃ q', (W.drewN q).drewN n = W.drewN q' from ⟨q + n, by rw [World.drewN_drewN]⟩))
        have H1 := Lib.hid (fun (h : atN xs k = atN ys k) => rows_same hc.out hlt (by omega) h)
        have H2 := Lib.hid (fun (h : ¬ atN xs k = atN ys k) => show ¬ xs = ys from fun e => h (by rw [e]))
        generalize atN xs k = x at *
        generalize atN ys k = y at *
        generalize W.drewN q = ww at *
        have ib : (k : Int) < (xs.length : Int) := by omega
        have ib2 : (k : Int) < (ys.length : Int) := by omega
        cases d : (x != y)
        · have R := Lib.hid (H1.out (by simpa using d))
          go_wp2_with fail
          go_quiet (fail)
          go_wp2_with fail
          go_roundw
          case rel => exact (hQ.out _).elim fun q' e => ⟨k + 1, q', by omega, by go_num, e, R⟩
          case measure => simp only [intOf]; omega
        · have R := Lib.hid (H2.out (by simpa using d))
          go_wp2_with fail
          go_quiet (fail)
          go_wp2_with fail
          go_ret
          exact ⟨by rw [decide_eq_false R.out]; rfl, hQ.out _⟩
      · have R := Lib.hid (show xs = ys by have h := hc.out; rwa [List.take_of_length_le (by omega), List.take_of_length_le (by omega)] at h)
        go_wp2_with fail
        go_ret
        exact ⟨by rw [decide_eq_true R.out]; rfl, _, rfl⟩
  · have R := Lib.hid (show ¬ xs = ys by rintro rfl; exact hl rfl)
    go_wp2_with fail
    go_ret
    exact ⟨by rw [decide_eq_false R.out]; rfl, 0, rfl⟩

end Go.Proofs.Ytopnagjbdjicaaa

/-
  Rows of counts made: noughts, a copy, one more, put together.
-/
namespace Go.Proofs.Ytopnagjbdjicaaa
open Go.RowKit

/-- A call that gives a row in memory of its own. -/
def NewQ (W : World) (xs : List Nat) (e : Ending) (w' : World) : Prop :=
  ∃ a cap, e = .returned (.slice a xs.length cap) ∧ SlAt qV QM w' a cap xs ∧ Below W.heap.size W w' ∧ (∀ ad, a = some ad → W.heap.size ≤ ad.block) ∧ w'.ownsRow W.heap.size 29 1 (.slice a xs.length cap) xs.length (xs.map qV)
/-- .. and whether. -/
def NewQb (W : World) (xs : List Nat) (b : Bool) (e : Ending) (w' : World) : Prop :=
  ∃ a cap, e = .returned (.tuple #[.slice a xs.length cap, .bool b]) ∧ SlAt qV QM w' a cap xs ∧ Below W.heap.size W w' ∧ (∀ ad, a = some ad → W.heap.size ≤ ad.block) ∧ w'.ownsRow W.heap.size 29 1 (.slice a xs.length cap) xs.length (xs.map qV)

theorem info_q {i? : Option TypeInfo} {z : Value} {s b : Nat} (h : i?.map (fun i => (i.zero, i.size, i.bytes)) = some (some z, s, b)) : ∃ i, i? = some i ∧ i.zero = some z ∧ i.size = s ∧ i.bytes = b := by
  cases i? with
  | none => simp at h
  | some i => simp at h; exact ⟨i, rfl, h.1, h.2.1, h.2.2⟩

theorem zeros_at (n i : Nat) : atN (List.replicate n 0) i = 0 := by
  by_cases h : i < n
  · rw [atN_of (by simpa using h)]; simp
  · exact atN_out (by simp; omega)
theorem zeros_lt (n : Nat) : ∀ x ∈ List.replicate n 0, x < QM := fun x hx => by rw [(List.mem_replicate.1 hx).2]; decide

theorem Try.sizeQ : (Try.prog.info? 29).map (·.size) = some 1 := by kernel_rfl

def newN (z : Int) : Nat := (min (max z 0) 64).toNat
set_option maxRecDepth 20000 in
theorem vnew_any (W : World) (z : Int) {n : Nat} (hn : newN z = n) : Calls Try.prog 35 #[.int .i64 z] W (NewQ W (List.replicate n 0)) := by
  have h64 : n ≤ 64 := by subst hn; unfold newN; omega
  have hz : min (max z 0) 64 = (n : Int) := by subst hn; unfold newN; omega
  have R := Lib.hid (show NewQ W (List.replicate n 0) (.returned (.slice (some ⟨W.heap.size, 0, none⟩) n n)) (W.alloc (.cells (madeCells #[.int .u64 0] n) 29)) from by
    have h := (RowQ.made W n).sl (zeros_lt n) (by unfold maxLen; simp; omega)
    rw [List.length_replicate] at h
    exact ⟨some ⟨W.heap.size, 0, none⟩, n, by rw [List.length_replicate], h, below_alloc (Below.refl _ _) _, (fun ad e => by cases e; exact Nat.le_refl _), by
      have h := (RowQ.made W n).own (Nat.le_refl _) (by unfold maxLen; simp; omega)
      rw [List.length_replicate] at h ⊢
      exact h⟩)
  clear hn
  by_cases h1 : z < 0
  · obtain rfl : n = 0 := by omega
    have hmk := make_vec (z := 0) 0 rfl (by omega)
    go_enter Try.func35, Try.ntmps35
    go_wp2_with fail
    go_ret
    exact R.out
  · have g1 : ¬ (0 : Int) > z := by omega
    by_cases h2 : z > 64
    · obtain rfl : n = 64 := by omega
      have hmk := make_vec (z := 64) 64 rfl (by omega)
      have g2 : (64 : Int) < z := h2
      go_enter Try.func35, Try.ntmps35
      go_wp2_with fail
      go_ret
      exact R.out
    · obtain rfl : z = n := by omega
      have hmk := make_vec n rfl (by omega)
      have g2 : ¬ (64 : Int) < (n : Int) := h2
      have g3 : ¬ 64 < n := by omega
      go_enter Try.func35, Try.ntmps35
      go_wp2_with fail
      go_ret
      exact R.out
set_option maxRecDepth 20000 in
set_option maxHeartbeats 2000000 in
theorem vclone_any {W : World} {a : Option Addr} {cap n : Nat} {xs : List Nat} (h : SlAt qV QM W a cap xs) (hn : xs.length = n) (hl : n ≤ 1000000) :
    Calls Try.prog 46 #[.slice a n cap] W (NewQ W xs) := by
  obtain ⟨i0, hi0, hz0, hz1, hz2⟩ := info_q Try.infoQ
  subst hn
  cases a with
  | none =>
    obtain ⟨h0, h1⟩ := h.empty rfl
    obtain rfl : xs = [] := List.length_eq_zero_iff.1 h0
    subst h1
    have P := Lib.hid (show NewQ W [] (.returned (.slice none 0 0)) W from ⟨none, 0, rfl, h, Below.refl _ _, (fun ad e => by cases e), World.ownsRow_nil _ _ _ _⟩)
    clear h hl h0
    have he : ∀ w : World, (binOp .eql 42 (.slice none 0 0) (.slice none 0 0)).run Try.prog w = .ok (.bool true) w := fun _ => rfl
    go_enter Try.func46, Try.ntmps46
    go_wp2_with fail
    go_ret
    exact P.out
  | some ad =>
    have S := Lib.hid h
    clear h
    generalize hn : xs.length = n at *
    have X := Lib.hid hn
    clear hn
    have he : ∀ w : World, (binOp .eql 42 (.slice (some ad) n cap) (.slice none 0 0)).run Try.prog w = .ok (.bool false) w := fun _ => rfl
    have O := Lib.hid (World.ownsRow_lit (base := W.heap.size) (e := 29) (size := 1) W #[] 0 (Nat.le_refl _) (by unfold maxLen; omega) rfl)
    go_enter Try.func46, Try.ntmps46
    go_wp2_with (at_builtin; refine wpList_append_at rfl (.tmp 5) (.tmp 6) 42 rfl W.heap.size 29 i0 (.int .u64 0) 1 8 Try.underlying42 hi0 hz0 hz1 hz2 rfl (by decide) _ _ _ rfl O.out _ _ _ (xs.map qV) rfl (by have := X.out; simp [this]) (fun e => by cases e) (S.out.below ((Below.refl _ _).alloc (Nat.le_refl _) _)).news (ones_q _) (by unfold maxLen; omega) (by omega) (by simp) ?_
                 intro v2 w2 hown2 hgr2 hat2
                 have hb2 : Below W.heap.size W w2 := ((Below.refl _ _).alloc (Nat.le_refl _) _).grown hgr2 (by simp) (fun k h => (O.out.lt k h).1)
                 try rw [Nat.zero_add, List.nil_append] at hown2
                 obtain ⟨a2, cap2, rfl⟩ := own_form hown2
                 obtain ⟨-, a3, cap3, e3, hs3⟩ := own_sl hown2 S.out.lt
                 have R := Lib.hid (show NewQ W xs (.returned (.slice a2 n cap2)) w2 from by
                   rw [X.out] at e3
                   cases e3
                   exact ⟨a2, cap2, by rw [X.out], hs3, hb2, (fun ad e => by subst e; exact (hown2.lt ad.block rfl).1), by rw [X.out]; exact hown2⟩)
                 clear hown2 hgr2 hb2 hat2 hs3 e3)
    go_ret
    exact R.out

theorem splice_zeros {xs : List Nat} {m : Nat} : splice ((List.replicate m 0).map qV) 0 (xs.map qV) = ((xs ++ List.replicate (m - xs.length) 0).map qV) := by
  unfold splice
  simp
/-- copy over noughts. -/
theorem run_copy_vec {w : World} {g m n cap : Nat} {a : Option Addr} {xs : List Nat} (hr : RowQ w g (List.replicate m 0)) (h : SlAt qV QM w a cap xs) (hn : xs.length = n) (hm : n ≤ m) :
    ∃ w2, (Builtin.copy_ #[42, 42] 3 #[.slice (some ⟨g, 0, none⟩) m m, .slice a n cap]).run Try.prog w = .ok (goInt n) w2 ∧ RowQ w2 g (xs ++ List.replicate (m - xs.length) 0) ∧ Below g w w2 := by
  subst hn
  by_cases h0 : xs.length = 0
  · obtain rfl : xs = [] := List.length_eq_zero_iff.1 h0
    exact ⟨w, run_copy_none (P := Try.prog) w 42 42 3 29 (some ⟨g, 0, none⟩) a m m 0 cap Try.underlying42 Try.sizeQ (Nat.zero_min _), by simpa using hr, Below.refl _ _⟩
  · obtain ⟨b, off, rfl, -⟩ := h.cell 0 (by omega)
    have e := run_copy_row (P := Try.prog) w 42 42 3 29 g 0 m m ⟨b, off, none⟩ xs.length cap ((List.replicate m 0).map qV).toArray 29 (xs.map qV) Try.underlying42 Try.sizeQ hr
      (by rw [List.length_map]; exact (Nat.min_eq_left hm).symm) (h.news _ rfl) (by simp; omega) (ones_q _)
    rw [List.length_map] at e
    refine ⟨_, e, ?_, below_setRow (Below.refl _ _) (Nat.le_refl _) _⟩
    refine (setRow_heap w g _ _ 29 _ hr).trans ?_
    have := splice_zeros (xs := xs) (m := m)
    unfold splice at this
    rw [List.length_map, ← List.append_assoc] at this
    rw [← this]

theorem pad_at {xs : List Nat} {m : Nat} (i : Nat) : atN (xs ++ List.replicate m 0) i = atN xs i := by
  by_cases h : i < xs.length
  · rw [atN_of h, atN_of (by simp; omega), List.getElem_append_left h]
  · rw [atN_out (xs := xs) (by omega)]
    by_cases h2 : i < (xs ++ List.replicate m 0).length
    · rw [atN_of h2, List.getElem_append_right (by omega)]; simp
    · exact atN_out (by omega)
theorem set_at {xs : List Nat} {i v k : Nat} (h : i < xs.length) : atN (xs.set i v) k = if k = i then v else atN xs k := by
  by_cases hk : k < xs.length
  · rw [atN_of (by simpa using hk), List.getElem_set, atN_of hk]
    by_cases e : k = i
    · subst e; simp
    · rw [if_neg (fun h => e h.symm), if_neg e]
  · rw [atN_out (by simp; omega), atN_out (xs := xs) (by omega), if_neg (by omega)]
theorem up_set {xs : List Nat} {i m : Nat} (hm : m = max xs.length (i + 1)) : (xs ++ List.replicate (m - xs.length) 0).set i (atN xs i + 1) = upL xs i := by
  refine row_ext (by rw [upL_length]; simp; omega) fun k _ => ?_
  rw [set_at (by simp; omega), pad_at, upL_at]
  split
  · subst_vars; rfl
  · rfl

/-- What the world behind make and copy tells. -/
theorem up_store {W w2 : World} {g m i v : Nat} {xs : List Nat} (hm : m = max xs.length (i + 1)) (hR : RowQ w2 g (xs ++ List.replicate (m - xs.length) 0)) (hb : Below W.heap.size W w2) (hg : W.heap.size ≤ g) (hx : ∀ x ∈ xs, x < QM) (hv : v = atN xs i + 1) (hlt : v < QM) (h64 : m ≤ 1000000) :
    NewQb W (upL xs i) true (.returned (.tuple #[.slice (some ⟨g, 0, none⟩) m m, .bool true])) (w2.setCell ⟨g, i, none⟩ (.int .u64 (v : Int))) := by
  subst hv
  have h1 : RowQ (w2.setCell ⟨g, i, none⟩ (.int .u64 ((atN xs i + 1 : Nat) : Int))) g (upL xs i) := (hR.set i _).conv (up_set hm)
  have hl : (upL xs i).length = m := by rw [upL_length, hm]
  have h2 := h1.sl (M := QM) (upL_lt hx hlt) (by rw [hl]; unfold maxLen; omega)
  rw [hl] at h2
  exact ⟨_, m, by rw [hl], h2, hb.setCell hg _, (fun ad e => by cases e; exact hg), by
    have h := h1.own hg (by rw [hl]; unfold maxLen; omega)
    rw [hl] at h ⊢
    exact h⟩

set_option maxRecDepth 20000 in
set_option maxHeartbeats 2000000 in
theorem vup_any {W : World} {a : Option Addr} {cap n : Nat} {xs : List Nat} {z : Int} (h : SlAt qV QM W a cap xs) (hn : xs.length = n) (hl : n ≤ 100000) {b : Bool} (hb : mayUp xs z = b) {r : List Nat} (hr : upR xs z = r) :
    Calls Try.prog 41 #[.slice a n cap, .int .i64 z] W (NewQb W r b) := by
  have CA := Lib.hid (vat_any (z := z) h hn rfl)
  have CC := Lib.hid (vclone_any h hn (by omega))
  have S := Lib.hid h
  have HN := Lib.hid hn
  clear h hn
  by_cases h0 : z < 0
  · have d0 : decide (z < 0) = true := decide_eq_true h0
    obtain rfl : b = false := by rw [← hb]; exact mayUp_low h0
    rw [upR_no hb] at hr
    subst hr
    clear h0 hb
    go_enter Try.func41, Try.ntmps41
    go_wp2_with fail
    refine CC.out.mono ?_
    rintro e w1 ⟨a1, c1, rfl, h1, h2, h3⟩
    have R := Lib.hid (show NewQb W xs false (.returned (.tuple #[.slice a1 xs.length c1, .bool false])) w1 from ⟨a1, c1, rfl, h1, h2, h3⟩)
    clear h1 h2 h3
    go_wp2_with fail
    go_ret2
    exact R.out
  · have d0 : decide (z < 0) = false := decide_eq_false h0
    by_cases h1 : z ≥ 64
    · have d1 : decide (z ≥ 64) = true := decide_eq_true h1
      obtain rfl : b = false := by rw [← hb]; exact mayUp_high h1
      rw [upR_no hb] at hr
      subst hr
      clear h0 h1 hb
      go_enter Try.func41, Try.ntmps41
      go_wp2_with fail
      refine CC.out.mono ?_
      rintro e w1 ⟨a1, c1, rfl, h1, h2, h3⟩
      have R := Lib.hid (show NewQb W xs false (.returned (.tuple #[.slice a1 xs.length c1, .bool false])) w1 from ⟨a1, c1, rfl, h1, h2, h3⟩)
      clear h1 h2 h3
      go_wp2_with fail
      go_ret2
      exact R.out
    · have d1 : decide (z ≥ 64) = false := decide_eq_false h1
      obtain ⟨i, rfl⟩ : ∃ i : Nat, z = i := ⟨z.toNat, by omega⟩
      by_cases hf : atN xs i = 18446744073709551615
      · obtain rfl : b = false := by rw [← hb]; exact mayUp_full (by rw [atZ_nat]; exact hf)
        rw [upR_no hb] at hr
        subst hr
        rw [atZ_nat, hf] at CA
        clear h0 h1 hb hf
        go_enter Try.func41, Try.ntmps41
        go_wp2_with fail
        refine CA.out.mono ?_
        rintro e w' ⟨rfl, rfl⟩
        go_wp2_with fail
        refine CC.out.mono ?_
        rintro e w1 ⟨a1, c1, rfl, h1, h2, h3⟩
        have R := Lib.hid (show NewQb W xs false (.returned (.tuple #[.slice a1 xs.length c1, .bool false])) w1 from ⟨a1, c1, rfl, h1, h2, h3⟩)
        clear h1 h2 h3
        go_wp2_with fail
        go_ret2
        exact R.out
      · obtain rfl : b = true := by rw [← hb]; exact mayUp_yes (by omega) hf
        rw [upR_yes hb] at hr
        subst hr
        rw [atZ_nat] at CA
        have hlt : atN xs i < 18446744073709551616 := atN_lt (show 0 < QM by decide) S.out.lt i
        obtain ⟨m, hm⟩ : ∃ m, m = max n (i + 1) := ⟨_, rfl⟩
        have HMX := Lib.hid hm
        have hm1 : i + 1 ≤ m := by omega
        have hm2 : n ≤ m := by omega
        have hm3 : m ≤ 1000000 := by omega
        have df : (((atN xs i : Nat) : Int) == 18446744073709551615) = false := beq_false_of_ne (by omega)
        have R0 := Lib.hid (RowQ.made W m)
        have B0 := Lib.hid (below_alloc (Below.refl _ W) (.cells (madeCells #[.int .u64 0] m) 29))
        have S0 := Lib.hid (S.out.below B0.out)
        have i0 : (0 : Int) ≤ (i : Int) := by omega
        have i1 : (i : Int) < (m : Int) := by omega
        have FIN := Lib.hid (fun w2 (hR : RowQ w2 W.heap.size (xs ++ List.replicate (m - xs.length) 0)) (hb : Below W.heap.size W w2) => up_store (v := atN xs i + 1) (by rw [HN.out]; exact HMX.out) hR hb (Nat.le_refl _) S.out.lt rfl (show atN xs i + 1 < 18446744073709551616 by omega) hm3)
        have CELL := Lib.hid (fun w2 (hR : RowQ w2 W.heap.size (xs ++ List.replicate (m - xs.length) 0)) => show w2.cell? ⟨W.heap.size, i, none⟩ = some (.int .u64 ((atN xs i : Nat) : Int)) from by
          have := hR.at (i := i) (by have := HN.out; simp; omega)
          rw [pad_at] at this
          exact this)
        have wv : IntKind.u64.wrap (((atN xs i : Nat) : Int) + 1) = ((atN xs i + 1 : Nat) : Int) := by
          rw [wrapQ (by omega)]; omega
        have hcase : (((i : Int) + 1 > (n : Int)) ∧ (n : Int) < (i : Int) + 1 ∧ n < i + 1 ∧ ((m : Int) = (i : Int) + 1)) ∨ ((¬ ((i : Int) + 1 > (n : Int))) ∧ ¬ (n : Int) < (i : Int) + 1 ∧ ¬ n < i + 1 ∧ ((m : Int) = (n : Int))) := by omega
        have CP := Lib.hid (run_copy_vec R0.out S0.out HN.out hm2)
        clear hm hlt h0 h1 hb hf
        generalize atN xs i = v at *
        generalize v + 1 = v1 at *
        rcases hcase with ⟨c1, c2, c3, c4⟩ | ⟨c1, c2, c3, c4⟩
        all_goals
          have hmk := make_vec m c4 hm3
          clear c4
          go_enter Try.func41, Try.ntmps41
          go_wp2_with fail
          refine CA.out.mono ?_
          rintro e w' ⟨rfl, rfl⟩
          clear CA
          obtain ⟨w2, hcp, hR2, hb2⟩ := CP.out
          have R2 := Lib.hid hR2
          have d2 := CELL.out w2 R2.out
          have f2 := R2.out.fz i
          have R := Lib.hid (FIN.out w2 R2.out (B0.out.trans (hb2.mono (by simp))))
          clear hR2 hb2
          go_wp2_with fail
          go_ret2
          exact R.out

end Go.Proofs.Ytopnagjbdjicaaa

/-
  Rows of counts, the document's own calls.
-/
namespace Go.Proofs.Ytopnagjbdjicaaa
open Go.RowKit

set_option maxRecDepth 20000 in
set_option maxHeartbeats 2000000 in
theorem rat_any {W : World} {a : Option Addr} {cap n : Nat} {xs : List Nat} {z : Int} (h : SlAt qV QM W a cap xs) (hn : xs.length = n) {v : Nat} (hv : atZ xs z = v) :
    Calls Try.prog 76 #[.slice a n cap, .int .i64 z] W fun e w' => e = .returned (.int .u64 (v : Int)) ∧ W = w' := by
  subst hn hv
  have hfit := h.fit
  have hmax := h.max
  unfold maxLen at hmax
  have S := Lib.hid h
  clear h
  by_cases h0 : z < 0
  · have d0 : decide (z < 0) = true := decide_eq_true h0
    rw [atZ_neg h0]
    clear h0
    go_enter Try.func76, Try.ntmps76
    go_wp2_with fail
    go_ret
    exact ⟨rfl, rfl⟩
  · obtain ⟨i, rfl⟩ : ∃ i : Nat, z = i := ⟨z.toNat, by omega⟩
    have d0 : decide ((i : Int) < 0) = false := decide_eq_false h0
    rw [atZ_nat]
    by_cases h1 : i < xs.length
    · obtain ⟨b, off, rfl, hb, hc⟩ := S.out.at h1
      have d1 : decide ((i : Int) ≥ (xs.length : Int)) = false := decide_eq_false (by omega)
      have i0 : (0 : Int) ≤ (i : Int) := by omega
      have i1 : (i : Int) < (xs.length : Int) := by omega
      have hc' : W.cell? ⟨b, off + i, none⟩ = some (.int .u64 ((atN xs i : Nat) : Int)) := hc
      clear hc
      generalize atN xs i = v at *
      go_enter Try.func76, Try.ntmps76
      go_wp2_with fail
      go_ret
      exact ⟨rfl, rfl⟩
    · have d1 : decide ((i : Int) ≥ (xs.length : Int)) = true := decide_eq_true (by omega)
      rw [atN_out (by omega)]
      go_enter Try.func76, Try.ntmps76
      go_wp2_with fail
      go_ret
      exact ⟨rfl, rfl⟩

/-- What is held while two rows are compared. -/
def CmpRel (xs ys : List Nat) (p q v : Value) : Prop :=
  ∃ (k : Nat) (a b : Bool), k ≤ max xs.length ys.length ∧ v = .int .i64 (k : Nat) ∧ p = .bool a ∧ q = .bool b ∧ (a = true ↔ ∀ j, j < k → atN xs j ≤ atN ys j) ∧ (b = true ↔ ∀ j, j < k → atN ys j ≤ atN xs j)

theorem all_more {k : Nat} {a : Bool} {f g : Nat → Nat} (h : a = true ↔ ∀ j, j < k → f j ≤ g j) : (a && decide (f k ≤ g k)) = true ↔ ∀ j, j < k + 1 → f j ≤ g j := by
  rw [Bool.and_eq_true, h, decide_eq_true_eq]
  refine ⟨fun ⟨h1, h2⟩ j hj => ?_, fun h => ⟨fun j hj => h j (by omega), h k (by omega)⟩⟩
  by_cases e : j = k
  · subst e; exact h2
  · exact h1 j (by omega)
theorem all_done {k : Nat} {a : Bool} {xs ys : List Nat} (hk : k = max xs.length ys.length) (h : a = true ↔ ∀ j, j < k → atN xs j ≤ atN ys j) : wiB xs ys = a := by
  have : wiB xs ys = true ↔ a = true := by
    rw [wiB_iff, h]
    refine ⟨fun h j _ => h j, fun h j => ?_⟩
    by_cases hj : j < k
    · exact h j hj
    · rw [atN_out (xs := xs) (by omega)]; exact Nat.zero_le _
  exact Bool.eq_iff_iff.2 this


/-- What is held while two rows are put together. -/
def RjoinRel (W : World) (xs ys : List Nat) (s v : Value) (wr : World) : Prop :=
  ∃ k : Nat, k ≤ (joinL xs ys).length ∧ v = .int .i64 (k : Nat) ∧ wr.ownsRow W.heap.size 29 1 s k (((joinL xs ys).take k).map qV) ∧ Below W.heap.size W wr

theorem take_map_succ {r : List Nat} {k : Nat} (h : k < r.length) : (r.take k).map qV ++ [qV (atN r k)] = (r.take (k + 1)).map qV := by
  rw [List.take_succ_eq_append_getElem h, List.map_append, atN_of h]; rfl

theorem lit_one (w : World) {v : Nat} (hv : v < QM) : SlAt qV QM (w.alloc (.cells #[.int .u64 (v : Int)] 29)) (some ⟨w.heap.size, 0, none⟩) 1 [v] :=
  ql_lit w [v] #[.int .u64 (v : Int)] 29 1 rfl rfl (by simpa using hv) (by unfold maxLen; omega)

set_option maxRecDepth 20000 in
set_option maxHeartbeats 4000000 in
theorem rjoin_any {W : World} {a1 a2 : Option Addr} {c1 c2 n m : Nat} {xs ys : List Nat} (h1 : SlAt qV QM W a1 c1 xs) (h2 : SlAt qV QM W a2 c2 ys) (hn : xs.length = n) (hm : ys.length = m) (hl : n ≤ 100000) (hl2 : m ≤ 100000) {r : List Nat} (hr : joinL xs ys = r) :
    Calls Try.prog 77 #[.slice a1 n c1, .slice a2 m c2] W (NewQ W r) := by
  obtain ⟨i0, hi0, hz0, hz1, hz2⟩ := info_q Try.infoQ
  have A := Lib.hid h1
  have B := Lib.hid h2
  have HN := Lib.hid hn
  have HM := Lib.hid hm
  have HL := Lib.hid (show r.length = max n m by rw [← hr, joinL_length, hn, hm])
  have HX := Lib.hid (show ∀ x ∈ r, x < QM by rw [← hr]; exact joinL_lt (by decide) h1.lt h2.lt)
  have HA := Lib.hid (fun k => show atN r k = max (atN xs k) (atN ys k) from by rw [← hr]; exact joinL_at ..)
  have S0 := Lib.hid (show RjoinRel W xs ys (.slice none 0 0) (.int .i64 0) W from ⟨0, Nat.zero_le _, rfl, by rw [List.take_zero]; exact World.ownsRow_nil _ _ _ _, Below.refl _ _⟩)
  have HR := Lib.hid hr
  clear h1 h2 hn hm hr
  go_enter Try.func77, Try.ntmps77
  go_wp2_with fail
  go_loopw [5, 6] (fun s v wr => RjoinRel W xs ys s v wr) (fun _ v _ => max n m - (intOf v).toNat)
  case atStart => exact S0.out
  case round =>
    obtain ⟨k, hk, rfl, hO, hb⟩ := hrel
    rw [HR.out] at hk hO
    rw [HL.out] at hk
    by_cases hlt : k < max n m
    · have hcase : (decide ((k : Int) < (n : Int)) = true ∧ decide (k < n) = true) ∨ (decide ((k : Int) < (n : Int)) = false ∧ decide (k < n) = false ∧ decide ((k : Int) < (m : Int)) = true ∧ decide (k < m) = true) := by
        by_cases h : k < n
        · exact Or.inl ⟨decide_eq_true (by omega), decide_eq_true h⟩
        · exact Or.inr ⟨decide_eq_false (by omega), decide_eq_false h, decide_eq_true (by omega), decide_eq_true (by omega)⟩
      have C1 := Lib.hid (rat_any (z := (k : Int)) (A.out.below hb) HN.out (atZ_nat xs k))
      have C2 := Lib.hid (rat_any (z := (k : Int)) (B.out.below hb) HM.out (atZ_nat ys k))
      have O := Lib.hid hO
      have HB := Lib.hid hb
      have kr : k < r.length := by rw [HL.out]; exact hlt
      have FIN := Lib.hid (fun s' w' (v : Nat) (hv : v = atN r k) (h : w'.ownsRow W.heap.size 29 1 s' (k + 1) ((r.take k).map qV ++ [qV v])) (hb : Below W.heap.size W w') => show RjoinRel W xs ys s' (.int .i64 ((k + 1 : Nat) : Int)) w' from
        ⟨k + 1, by rw [HR.out]; omega, rfl, by rw [HR.out, ← take_map_succ kr, ← hv]; exact h, hb⟩)
      rw [HA.out] at FIN
      have hown := hO
      obtain ⟨sa, sc, rfl⟩ := own_form hO
      have XL := Lib.hid (atN_lt (by decide) A.out.lt k)
      have YL := Lib.hid (atN_lt (by decide) B.out.lt k)
      clear hO hb kr hk hown
      generalize atN xs k = x at *
      generalize atN ys k = y at *
      have hxy : (decide ((y : Int) > (x : Int)) = true ∧ decide (x < y) = true ∧ Hid (y = max x y)) ∨ (decide ((y : Int) > (x : Int)) = false ∧ decide (x < y) = false ∧ Hid (x = max x y)) := by
        by_cases h : x < y
        · exact Or.inl ⟨decide_eq_true (by omega), decide_eq_true h, Lib.hid (by omega)⟩
        · exact Or.inr ⟨decide_eq_false (by omega), decide_eq_false h, Lib.hid (by omega)⟩
      have LIT := Lib.hid (fun v (hv : v < QM) => lit_one wr (v := v) hv)
      have hx : x < QM := XL.out
      have hy : y < QM := YL.out
      have HB2 := Lib.hid (fun o => HB.out.alloc HB.out.size o)
      have O2 := Lib.hid (fun o => own_below O.out ((Below.refl _ wr).alloc (Nat.le_refl _) o))
      have hk8 : k ≤ 100000 := by omega
      clear O HB
      rcases hcase with ⟨e1, e2⟩ | ⟨e1, e2, e3, e4⟩
      all_goals
        rcases hxy with ⟨g1, g2, g3⟩ | ⟨g1, g2, g3⟩
        · go_wp2_with fail
          refine C1.out.mono ?_
          rintro e w' ⟨rfl, rfl⟩
          go_wp2_with fail
          refine C2.out.mono ?_
          rintro e w' ⟨rfl, rfl⟩
          go_wp2_with fail
          refine C2.out.mono ?_
          rintro e w' ⟨rfl, rfl⟩
          clear C1 C2
          go_wp2_with (
            at_builtin
            refine wpList_append_at rfl (.tmp 31) (.tmp 33) 41 rfl W.heap.size 29 i0 (.int .u64 0) 1 8 Try.underlying41 hi0 hz0 hz1 hz2 rfl (by decide) _ k ((r.take k).map qV) rfl ?h1 _ _ _ [qV y] rfl ?h2 ?h3 ?h4 ?h5 ?h6 ?h7 ?h8 ?_
            case h1 => exact O2.out _
            case h2 => rfl
            case h3 => intro e; cases e
            case h4 => exact (LIT.out y hy).news
            case h5 => exact ones_q [y]
            case h6 => unfold maxLen; omega
            case h7 => omega
            case h8 => exact (HB2.out (.cells #[.int .u64 (y : Int)] 29)).size
            intro v2 w2 hown2 hgr2 hat2
            have R := Lib.hid (FIN.out v2 w2 y g3.out hown2 ((HB2.out (.cells #[.int .u64 (y : Int)] 29)).grown hgr2 (HB2.out (.cells #[.int .u64 (y : Int)] 29)).size (fun k h => ((O2.out (.cells #[.int .u64 (y : Int)] 29)).lt k h).1)))
            clear hown2 hgr2 hat2)
          go_roundw
          case rel => exact R.out
          case measure => simp only [intOf]; omega
        · go_wp2_with fail
          refine C1.out.mono ?_
          rintro e w' ⟨rfl, rfl⟩
          go_wp2_with fail
          refine C2.out.mono ?_
          rintro e w' ⟨rfl, rfl⟩
          clear C1 C2
          go_wp2_with (
            at_builtin
            refine wpList_append_at rfl (.tmp 31) (.tmp 33) 41 rfl W.heap.size 29 i0 (.int .u64 0) 1 8 Try.underlying41 hi0 hz0 hz1 hz2 rfl (by decide) _ k ((r.take k).map qV) rfl ?h1 _ _ _ [qV x] rfl ?h2 ?h3 ?h4 ?h5 ?h6 ?h7 ?h8 ?_
            case h1 => exact O2.out _
            case h2 => rfl
            case h3 => intro e; cases e
            case h4 => exact (LIT.out x hx).news
            case h5 => exact ones_q [x]
            case h6 => unfold maxLen; omega
            case h7 => omega
            case h8 => exact (HB2.out (.cells #[.int .u64 (x : Int)] 29)).size
            intro v2 w2 hown2 hgr2 hat2
            have R := Lib.hid (FIN.out v2 w2 x g3.out hown2 ((HB2.out (.cells #[.int .u64 (x : Int)] 29)).grown hgr2 (HB2.out (.cells #[.int .u64 (x : Int)] 29)).size (fun k h => ((O2.out (.cells #[.int .u64 (x : Int)] 29)).lt k h).1)))
            clear hown2 hgr2 hat2)
          go_roundw
          case rel => exact R.out
          case measure => simp only [intOf]; omega
    · obtain rfl : k = max n m := by omega
      have e1 : decide (((max n m : Nat) : Int) < (n : Int)) = false := decide_eq_false (by omega)
      have e2 : decide (((max n m : Nat) : Int) < (m : Int)) = false := decide_eq_false (by omega)
      have e3 : decide (max n m < n) = false := decide_eq_false (by omega)
      have e4 : decide (max n m < m) = false := decide_eq_false (by omega)
      rw [List.take_of_length_le (by rw [HL.out]; exact Nat.le_refl _)] at hO
      obtain ⟨-, a3, c3, rfl, hS⟩ := own_sl hO HX.out
      have R := Lib.hid (show NewQ W r (.returned (.slice a3 r.length c3)) wr from ⟨a3, c3, rfl, hS, hb, (fun ad e => by subst e; exact (hO.lt ad.block rfl).1), by have h := hO; rw [← HL.out] at h; exact h⟩)
      clear hO hb hS
      generalize max n m = l at *
      go_wp2_with fail
      go_ret
      exact R.out

end Go.Proofs.Ytopnagjbdjicaaa

/-
  Rows of counts put together.
-/
namespace Go.Proofs.Ytopnagjbdjicaaa
open Go.RowKit

def JoinRel (W : World) (r : List Nat) (v : Value) (wr : World) : Prop :=
  ∃ k : Nat, k ≤ r.length ∧ v = .int .i64 (k : Nat) ∧ RowQ wr W.heap.size (fillL r k) ∧ Below W.heap.size W wr

theorem JoinRel.step {W wr : World} {r : List Nat} {k v : Nat} (hk : k < r.length) (hR : RowQ wr W.heap.size (fillL r k)) (hb : Below W.heap.size W wr) (hv : v = atN r k) :
    JoinRel W r (.int .i64 ((k + 1 : Nat) : Int)) (wr.setCell ⟨W.heap.size, k, none⟩ (.int .u64 (v : Int))) := by
  subst hv
  refine ⟨k + 1, by omega, rfl, (hR.set k _).conv ?_, hb.setCell (Nat.le_refl _) _⟩
  rw [atN_of hk]
  exact fillL_set r hk

set_option maxRecDepth 20000 in
set_option maxHeartbeats 2000000 in
theorem vjoin_any {W : World} {a1 a2 : Option Addr} {c1 c2 n m : Nat} {xs ys : List Nat} (h1 : SlAt qV QM W a1 c1 xs) (h2 : SlAt qV QM W a2 c2 ys) (hn : xs.length = n) (hm : ys.length = m) (hl : n ≤ 100000) (hl2 : m ≤ 100000) {r : List Nat} (hr : joinL xs ys = r) :
    Calls Try.prog 68 #[.slice a1 n c1, .slice a2 m c2] W (NewQ W r) := by
  have A := Lib.hid h1
  have B := Lib.hid h2
  have HN := Lib.hid hn
  have HM := Lib.hid hm
  have hlr : r.length = max n m := by rw [← hr, joinL_length, hn, hm]
  have hlt : ∀ x ∈ r, x < QM := by rw [← hr]; exact joinL_lt (by decide) h1.lt h2.lt
  have hat : ∀ k, atN r k = max (atN xs k) (atN ys k) := fun k => by rw [← hr]; exact joinL_at ..
  clear h1 h2 hn hm hr
  obtain ⟨l, hl0⟩ : ∃ l, l = r.length := ⟨_, rfl⟩
  have HL := Lib.hid hl0
  have HX := Lib.hid hlt
  have HA := Lib.hid hat
  have hl3 : l ≤ 100000 := by omega
  have hcase : (((m : Int) > (n : Int)) ∧ (n : Int) < (m : Int) ∧ n < m ∧ ((l : Int) = (m : Int))) ∨ ((¬ ((m : Int) > (n : Int))) ∧ ¬ (n : Int) < (m : Int) ∧ ¬ n < m ∧ ((l : Int) = (n : Int))) := by omega
  have S0 := Lib.hid (show JoinRel W r (.int .i64 0) (W.alloc (.cells (madeCells #[.int .u64 0] l) 29)) from
    ⟨0, Nat.zero_le _, rfl, by rw [fillL_zero, ← hl0]; exact RowQ.made W l, below_alloc (Below.refl _ _) _⟩)
  clear hl0 hlt hat hlr
  rcases hcase with ⟨e1, e2, e3, e4⟩ | ⟨e1, e2, e3, e4⟩
  all_goals
    have hmk := make_vec l e4 (by omega)
    clear e4
    go_enter Try.func68, Try.ntmps68
    go_wp2_with fail
    clear hmk e1 e2 e3
    generalize W.alloc (.cells (madeCells #[.int .u64 0] l) 29) = w0 at *
    go_loopw [15] (fun v wr => JoinRel W r v wr) (fun v _ => l - (intOf v).toNat)
    case atStart => exact S0.out
    case round =>
      obtain ⟨k, hk, rfl, hR, hb⟩ := hrel
      rw [← HL.out] at hk
      by_cases hlt : k < l
      · have i0 : (0 : Int) ≤ (k : Int) := by omega
        have i1 : (k : Int) < (l : Int) := by omega
        have kr : k < r.length := by rw [← HL.out]; exact hlt
        have C1 := Lib.hid (vat_any (z := (k : Int)) (A.out.below hb) HN.out (atZ_nat xs k))
        have C2 := Lib.hid (vat_any (z := (k : Int)) (B.out.below hb) HM.out (atZ_nat ys k))
        have d0 := hR.at (i := k) (by rw [fillL_length _ (Nat.le_of_lt kr)]; exact kr)
        have f0 := hR.fz k
        have R := Lib.hid (fun v (hv : v = atN r k) => JoinRel.step kr hR hb hv)
        rw [HA.out] at R
        clear hR hb kr
        generalize atN xs k = x at *
        generalize atN ys k = y at *
        generalize atN (fillL r k) k = u at *
        have hcase : ((y : Int) > (x : Int) ∧ (x : Int) < (y : Int) ∧ x < y ∧ y = max x y) ∨ (¬ (y : Int) > (x : Int) ∧ ¬ (x : Int) < (y : Int) ∧ ¬ x < y ∧ x = max x y) := by omega
        go_wp2_with fail
        refine C1.out.mono ?_
        rintro e w' ⟨rfl, rfl⟩
        go_wp2_with fail
        refine C2.out.mono ?_
        rintro e w' ⟨rfl, rfl⟩
        clear C1 C2
        rcases hcase with ⟨e1, e2, e3, e4⟩ | ⟨e1, e2, e3, e4⟩
        all_goals
          have R2 := Lib.hid (R.out _ e4)
          clear R e4
          go_wp2_with fail
          go_roundw
          case rel => exact R2.out
          case measure => simp only [intOf]; omega
      · obtain rfl : k = l := by omega
        have R := Lib.hid (show NewQ W r (.returned (.slice (some ⟨W.heap.size, 0, none⟩) k k)) wr from by
          have h := hR.conv (show fillL r k = r by rw [HL.out]; exact fillL_all r)
          have h2 := h.sl HX.out (by rw [← HL.out]; unfold maxLen; omega)
          rw [← HL.out] at h2
          exact ⟨_, k, by rw [← HL.out], h2, hb, (fun ad e => by cases e; exact Nat.le_refl _), by
            have h3 := h.own (Nat.le_refl _) (by rw [← HL.out]; unfold maxLen; omega)
            rw [← HL.out] at h3 ⊢
            exact h3⟩)
        clear hR hb
        go_wp2_with fail
        go_ret
        exact R.out

end Go.Proofs.Ytopnagjbdjicaaa

/-
  What chapter 15 tells of two rows.
-/
namespace Go.Proofs.Ytopnagjbdjicaaa
open Go.RowKit

/-- A call that makes memory of its own. -/
def VOk (W : World) (e : Ending) (w' : World) : Prop := e = .returned (.bool true) ∧ Below W.heap.size W w'

def NewN (W : World) (xs : List Nat) (n : Nat) (e : Ending) (w' : World) : Prop :=
  ∃ a cap, e = .returned (.slice a n cap) ∧ SlAt qV QM w' a cap xs ∧ Below W.heap.size W w' ∧ (∀ ad, a = some ad → W.heap.size ≤ ad.block) ∧ w'.ownsRow W.heap.size 29 1 (.slice a n cap) n (xs.map qV)
def NewNb (W : World) (xs : List Nat) (n : Nat) (b : Bool) (e : Ending) (w' : World) : Prop :=
  ∃ a cap, e = .returned (.tuple #[.slice a n cap, .bool b]) ∧ SlAt qV QM w' a cap xs ∧ Below W.heap.size W w' ∧ (∀ ad, a = some ad → W.heap.size ≤ ad.block) ∧ w'.ownsRow W.heap.size 29 1 (.slice a n cap) n (xs.map qV)

theorem cl_new (W : World) {z : Int} {xs : List Nat} {n : Nat} (hz : newN z = n) (hx : List.replicate n 0 = xs) : Calls Try.prog 35 #[.int .i64 z] W (NewN W xs n) :=
  (vnew_any W z hz).mono fun e w ⟨a, cap, h1, h2, h3, h4, h5⟩ => ⟨a, cap, by rw [h1, List.length_replicate], hx ▸ h2, h3, h4, by rw [List.length_replicate, hx] at h5; exact h5⟩
theorem cl_up {W : World} {a : Option Addr} {cap n : Nat} {xs : List Nat} {z : Int} (h : SlAt qV QM W a cap xs) (hn : xs.length = n) (hl : n ≤ 100000) {b : Bool} (hb : mayUp xs z = b) {r : List Nat} (hr : upR xs z = r) {k : Nat} (hk : r.length = k) :
    Calls Try.prog 41 #[.slice a n cap, .int .i64 z] W (NewNb W r k b) :=
  (vup_any h hn hl hb hr).mono fun e w ⟨a, cap, h1, h2, h3, h4, h5⟩ => ⟨a, cap, by rw [h1, hk], h2, h3, h4, by rw [hk] at h5; exact h5⟩
theorem cl_join {W : World} {a1 a2 : Option Addr} {c1 c2 n m : Nat} {xs ys : List Nat} (h1 : SlAt qV QM W a1 c1 xs) (h2 : SlAt qV QM W a2 c2 ys) (hn : xs.length = n) (hm : ys.length = m) (hl : n ≤ 100000) (hl2 : m ≤ 100000) {r : List Nat} (hr : joinL xs ys = r) {k : Nat} (hk : r.length = k) :
    Calls Try.prog 68 #[.slice a1 n c1, .slice a2 m c2] W (NewN W r k) :=
  (vjoin_any h1 h2 hn hm hl hl2 hr).mono fun e w ⟨a, cap, h1, h2, h3, h4, h5⟩ => ⟨a, cap, by rw [h1, hk], h2, h3, h4, by rw [hk] at h5; exact h5⟩

theorem cl_rjoin {W : World} {a1 a2 : Option Addr} {c1 c2 n m : Nat} {xs ys : List Nat} (h1 : SlAt qV QM W a1 c1 xs) (h2 : SlAt qV QM W a2 c2 ys) (hn : xs.length = n) (hm : ys.length = m) (hl : n ≤ 100000) (hl2 : m ≤ 100000) {r : List Nat} (hr : joinL xs ys = r) {k : Nat} (hk : r.length = k) :
    Calls Try.prog 77 #[.slice a1 n c1, .slice a2 m c2] W (NewN W r k) :=
  (rjoin_any h1 h2 hn hm hl hl2 hr).mono fun e w ⟨a, cap, h1, h2, h3, h4, h5⟩ => ⟨a, cap, by rw [h1, hk], h2, h3, h4, by rw [hk] at h5; exact h5⟩
theorem size_one (w : World) (cs : Array Value) (t : TypeId) : (w.alloc (.cells cs t)).heap.size = w.heap.size + 1 := by simp
theorem nil_sl (W : World) : SlAt qV QM W none 0 [] := SlAt.none _ _ _


end Go.Proofs.Ytopnagjbdjicaaa

/-
  One more, the document's own call.
-/
namespace Go.Proofs.Ytopnagjbdjicaaa
open Go.RowKit

def RupRel (W : World) (xs : List Nat) (i : Nat) (v : Value) (wr : World) : Prop :=
  ∃ k l : Nat, l = xs.length + k ∧ l ≤ max xs.length (i + 1) ∧ wr.ownsRow W.heap.size 29 1 v l ((xs ++ List.replicate k 0).map qV) ∧ Below W.heap.size W wr

theorem zero_more (xs : List Nat) (k : Nat) : (xs ++ List.replicate k 0).map qV ++ [qV 0] = (xs ++ List.replicate (k + 1) 0).map qV := by
  rw [List.replicate_succ', ← List.append_assoc, List.map_append (l₂ := [0])]; rfl

theorem rup_store {W wr : World} {g cap l i k : Nat} {xs : List Nat} (hl : l = xs.length + k) (hm : l = max xs.length (i + 1)) (hO : wr.ownsRow W.heap.size 29 1 (.slice (some ⟨g, 0, none⟩) l cap) l ((xs ++ List.replicate k 0).map qV)) (hb : Below W.heap.size W wr) (hx : ∀ x ∈ xs, x < QM) (hlt : atN xs i + 1 < QM) (v : Nat) (hv : v = atN xs i + 1) :
    NewQb W (upL xs i) true (.returned (.tuple #[.slice (some ⟨g, 0, none⟩) l cap, .bool true])) (wr.setCell ⟨g, i, none⟩ (.int .u64 (v : Int))) := by
  subst hv
  have h1 := (hO.stored i (qV (atN xs i + 1))).1
  have hg : W.heap.size ≤ g := (hO.lt g rfl).1
  have e : ((xs ++ List.replicate k 0).map qV).set i (qV (atN xs i + 1)) = (upL xs i).map qV := by
    rw [← List.map_set, ← up_set hm, show l - xs.length = k by omega]
  rw [e] at h1
  obtain ⟨e2, a3, c3, e3, hS⟩ := own_sl h1 (upL_lt hx hlt)
  rw [← e2] at e3
  cases e3
  exact ⟨_, cap, by rw [← e2], hS, hb.setCell hg _, (fun ad e => by cases e; exact hg), by rw [← e2]; exact h1⟩

set_option maxRecDepth 20000 in
set_option maxHeartbeats 4000000 in
theorem rup_any {W : World} {a : Option Addr} {cap n : Nat} {xs : List Nat} {z : Int} (h : SlAt qV QM W a cap xs) (hn : xs.length = n) (hl : n ≤ 100000) {b : Bool} (hb : mayUp xs z = b) {r : List Nat} (hr : upR xs z = r) :
    Calls Try.prog 56 #[.slice a n cap, .int .i64 z] W (NewQb W r b) := by
  obtain ⟨i0, hi0, hz0, hz1, hz2⟩ := info_q Try.infoQ
  have S := Lib.hid h
  have HN := Lib.hid hn
  have O := Lib.hid (World.ownsRow_lit (base := W.heap.size) (e := 29) (size := 1) W #[] 0 (Nat.le_refl _) (by unfold maxLen; omega) rfl)
  have HB := Lib.hid (below_alloc (Below.refl _ W) (.cells #[] 29))
  have S1 := Lib.hid (h.below HB.out)
  have NIL := Lib.hid (fun e => S1.out.empty e)
  have HE := Lib.hid (show ((xs.map qV).length = n * 1) by rw [List.length_map, hn, Nat.mul_one])
  have hcase : (decide (z < 0) = true ∧ b = false ∧ r = xs) ∨ (decide (z < 0) = false ∧ decide (z > 63) = true ∧ b = false ∧ r = xs) ∨
      ∃ i : Nat, z = i ∧ decide (z < 0) = false ∧ decide (z > 63) = false ∧ i < 64 := by
    by_cases h0 : z < 0
    · have hb0 := mayUp_low (xs := xs) h0
      exact Or.inl ⟨decide_eq_true h0, by rw [← hb, hb0], by rw [← hr, upR_no hb0]⟩
    · by_cases h1 : z > 63
      · have hb0 := mayUp_high (xs := xs) (show z ≥ 64 by omega)
        exact Or.inr (Or.inl ⟨decide_eq_false h0, decide_eq_true h1, by rw [← hb, hb0], by rw [← hr, upR_no hb0]⟩)
      · exact Or.inr (Or.inr ⟨z.toNat, by omega, decide_eq_false h0, decide_eq_false h1, by omega⟩)
  have HR := Lib.hid hr
  have HBB := Lib.hid hb
  clear h hn hb hr
  rcases hcase with ⟨d1, d2, d3⟩ | ⟨d1, d2, d3, d4⟩ | ⟨i, rfl, d1, d2, hi⟩
  all_goals
    go_enter Try.func56, Try.ntmps56
    go_wp2_with (
      at_builtin
      refine wpList_append_at rfl (.tmp 7) (.tmp 8) 41 rfl W.heap.size 29 i0 (.int .u64 0) 1 8 Try.underlying41 hi0 hz0 hz1 hz2 rfl (by decide) _ 0 [] rfl ?h1 _ _ _ (xs.map qV) rfl HE.out ?h3 ?h4 (ones_q xs) ?h6 ?h7 HB.out.size ?_
      case h1 => exact O.out
      case h3 => intro e; have h0 := NIL.out e; rw [HN.out] at h0; exact h0
      case h4 => exact S1.out.news
      case h6 => unfold maxLen; omega
      case h7 => omega
      intro v2 w2 hown2 hgr2 hat2
      try rw [Nat.zero_add, List.nil_append] at hown2
      have HB2 := Lib.hid (HB.out.grown hgr2 HB.out.size (fun k h => (O.out.lt k h).1))
      have S2 := Lib.hid (S.out.below HB2.out)
      have O2 := Lib.hid hown2
      have FF := Lib.hid (own_form hown2)
      clear hown2 hgr2 hat2)
  · have R := Lib.hid (show NewQb W xs false (.returned (.tuple #[v2, .bool false])) w2 from by
      obtain ⟨-, a3, c3, e3, hS⟩ := own_sl O2.out S.out.lt
      rw [e3]
      exact ⟨a3, c3, rfl, hS, HB2.out, (fun ad e => by subst e; exact (O2.out.lt ad.block (by rw [e3]; rfl)).1), by have h := O2.out; rw [e3, ← HN.out] at h; exact h⟩)
    subst d2
    go_ret2
    exact R.out
  · have R := Lib.hid (show NewQb W xs false (.returned (.tuple #[v2, .bool false])) w2 from by
      obtain ⟨-, a3, c3, e3, hS⟩ := own_sl O2.out S.out.lt
      rw [e3]
      exact ⟨a3, c3, rfl, hS, HB2.out, (fun ad e => by subst e; exact (O2.out.lt ad.block (by rw [e3]; rfl)).1), by have h := O2.out; rw [e3, ← HN.out] at h; exact h⟩)
    subst d3
    go_ret2
    exact R.out
  · refine (rat_any (z := (i : Int)) S2.out HN.out (atZ_nat xs i)).mono ?_
    rintro e w' ⟨rfl, rfl⟩
    by_cases hf : atN xs i = 18446744073709551615
    · have R := Lib.hid (show NewQb W r b (.returned (.tuple #[v2, .bool false])) w2 from by
        obtain ⟨-, a3, c3, e3, hS⟩ := own_sl O2.out S.out.lt
        have hb0 := mayUp_full (xs := xs) (z := (i : Int)) (by rw [atZ_nat]; exact hf)
        rw [e3, ← HBB.out, hb0, ← HR.out, upR_no hb0]
        exact ⟨a3, c3, rfl, hS, HB2.out, (fun ad e => by subst e; exact (O2.out.lt ad.block (by rw [e3]; rfl)).1), by have h := O2.out; rw [e3, ← HN.out] at h; exact h⟩)
      rw [hf]
      clear hf
      go_wp2_with fail
      go_ret2
      exact R.out
    · have hb0 := mayUp_yes (show i < 64 by omega) hf
      have df : (((atN xs i : Nat) : Int) == 18446744073709551615) = false := beq_false_of_ne (by omega)
      have hlt : atN xs i < 18446744073709551616 := atN_lt (by decide) S.out.lt i
      have HLT := Lib.hid (show atN xs i + 1 < 18446744073709551616 by omega)
      have wv : IntKind.u64.wrap (((atN xs i : Nat) : Int) + 1) = ((atN xs i + 1 : Nat) : Int) := by rw [wrapQ (by omega)]; omega
      have BT := Lib.hid (show b = true from by rw [← HBB.out]; exact hb0)
      have RT := Lib.hid (show r = upL xs i from by rw [← HR.out]; exact upR_yes hb0)
      have I0 := Lib.hid (show RupRel W xs i v2 w2 from ⟨0, n, by rw [HN.out]; rfl, by rw [HN.out]; omega, by simpa using O2.out, HB2.out⟩)
      obtain ⟨v, hv⟩ : ∃ v, v = atN xs i := ⟨_, rfl⟩
      obtain ⟨v1, hv1⟩ : ∃ v1, v1 = atN xs i + 1 := ⟨_, rfl⟩
      rw [← hv1, ← hv] at wv
      rw [← hv] at df ⊢
      have HV := Lib.hid hv
      have HV1 := Lib.hid hv1
      clear hf hb0 hlt hv hv1 O2
      go_wp2_with fail
      go_loopw [6] (fun s wr => RupRel W xs i s wr) (fun s _ => match s with | .slice _ l _ => i + 1 - l | _ => 0)
      case atStart => exact I0.out
      case round =>
        obtain ⟨k, l, hl, hm, hO, hb⟩ := hrel
        rw [HN.out] at hl hm
        by_cases hlt : l ≤ i
        · have dl : decide ((l : Int) ≤ (i : Int)) = true := decide_eq_true (by omega)
          have dl2 : decide (l ≤ i) = true := decide_eq_true hlt
          obtain ⟨sa, sc, rfl⟩ := own_form hO
          have OA := Lib.hid (own_below hO ((Below.refl _ wr).alloc (Nat.le_refl _) (.cells #[.int .u64 0] 29)))
          have LA := Lib.hid (lit_one wr (v := 0) (by decide))
          have BA := Lib.hid (hb.alloc hb.size (.cells #[.int .u64 0] 29))
          have FIN := Lib.hid (fun s' w' (h : w'.ownsRow W.heap.size 29 1 s' (l + 1) ((xs ++ List.replicate k 0).map qV ++ [qV 0])) (hb : Below W.heap.size W w') => show RupRel W xs i s' w' from
            ⟨k + 1, l + 1, by rw [HN.out]; omega, by rw [HN.out]; omega, by rw [← zero_more]; exact h, hb⟩)
          clear hO hb hl hm
          have hl8 : l ≤ 100 := by omega
          go_wp2_with (
            at_builtin
            refine wpList_append_at rfl (.tmp 27) (.tmp 28) 41 rfl W.heap.size 29 i0 (.int .u64 0) 1 8 Try.underlying41 hi0 hz0 hz1 hz2 rfl (by decide) _ l ((xs ++ List.replicate k 0).map qV) rfl ?h1 _ _ _ [qV 0] rfl ?h2 ?h3 ?h4 (ones_q [0]) ?h6 ?h7 ?h8 ?_
            case h1 => exact OA.out
            case h2 => rfl
            case h3 => intro e; cases e
            case h4 => exact LA.out.news
            case h6 => unfold maxLen; omega
            case h7 => omega
            case h8 => exact BA.out.size
            intro v3 w3 hown3 hgr3 hat3
            have R := Lib.hid (FIN.out v3 w3 hown3 (BA.out.grown hgr3 BA.out.size (fun k h => (OA.out.lt k h).1)))
            have FF2 := Lib.hid (own_form hown3)
            clear hown3 hgr3 hat3)
          go_roundw
          case rel => exact R.out
          case measure => obtain ⟨a9, c9, rfl⟩ := FF2.out; simp only; omega
        · have dl : decide ((l : Int) ≤ (i : Int)) = false := decide_eq_false (by omega)
          have dl2 : decide (l ≤ i) = false := decide_eq_false hlt
          obtain ⟨g, sc, rfl, hg1, hg2⟩ := hO.form (by omega)
          have i0' : (0 : Int) ≤ (i : Int) := by omega
          have i1' : (i : Int) < (l : Int) := by omega
          have c0 : wr.cell? ⟨g, i, none⟩ = some (.int .u64 (v : Int)) := by
            rw [hO.cellAt i (by omega), HV.out, ← pad_at (xs := xs) (m := k), atN_of (by simp; rw [HN.out]; omega), List.getElem?_map, List.getElem?_eq_getElem (by simp; rw [HN.out]; omega)]
            rfl
          have f0 := hO.frozenAt i
          have R := Lib.hid (rup_store (by rw [HN.out]; exact hl) (by rw [HN.out]; omega) hO hb S.out.lt HLT.out v1 HV1.out)
          clear hO hb hl hm HR HBB hg1 hg2
          go_wp2_with fail
          go_ret2
          rw [RT.out, BT.out]
          exact R.out

end Go.Proofs.Ytopnagjbdjicaaa
