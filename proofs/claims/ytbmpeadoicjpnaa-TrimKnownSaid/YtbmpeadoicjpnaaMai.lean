/-
  Texts of this claim, put together.
-/
import Derived.Test.YtbmpeadoicjpnaaMaf
import Derived.Deep.LoopGhost

/-
  slices.BinarySearchFunc at entries; trim.find.
-/
namespace Go.Proofs.Ytbmpeadoicjpnaa
open Go.RowKit Go.Sort

def placeX (l : List Le) (x : Le) : Nat := (l.filter (aheadX · x)).length
def hasX (l : List Le) (x : Le) : Bool := (findX l x).isSome
theorem place_le (l : List Le) (x : Le) : placeX l x ≤ l.length := List.length_filter_le _ _
theorem place_is {l : List Le} {x : Le} {k : Nat} (hr : Rise l) (hk : k ≤ l.length) (h1 : ∀ i, (h : i < k) → aheadX (l[i]'(by omega)) x = true) (h2 : (h : k < l.length) → aheadX l[k] x = false) : placeX l x = k := by
  unfold placeX
  rw [filt_lo hr hk h1 h2, List.length_take]
  omega
theorem has_is_at {l : List Le} {x : Le} {k : Nat} (hr : Rise l) (hk : k ≤ l.length) (h1 : ∀ i, (h : i < k) → aheadX (l[i]'(by omega)) x = true) (h2 : (h : k < l.length) → aheadX l[k] x = false) : hasX l x = true ↔ ∃ h : k < l.length, Same x l[k] := by
  constructor
  · intro h
    unfold hasX at h
    cases hf : findX l x with
    | none => rw [hf] at h; cases h
    | some y =>
      obtain ⟨g1, g2⟩ := find_some hf
      obtain ⟨j, hj, rfl⟩ := List.getElem_of_mem g1
      have ha : aheadX l[j] x = false := by rw [(ahead_same g2).2]; exact ahead_self _
      have hkj : k ≤ j := by
        rcases Nat.lt_or_ge j k with h3 | h3
        · rw [h1 j h3] at ha; cases ha
        · exact h3
      have hkl : k < l.length := by omega
      rcases Nat.lt_or_ge k j with h3 | h3
      · have g3 := List.pairwise_iff_getElem.1 hr k j hkl hj h3
        have g4 := h2 hkl
        rw [(ahead_same g2).2, g3] at g4
        cases g4
      · have : j = k := by omega
        subst this
        exact ⟨hkl, g2⟩
  · rintro ⟨h, hs⟩
    unfold hasX
    rw [find_is hr (List.getElem_mem h) hs]
    rfl
/-- Where it is, by its place. -/
theorem find_place {l : List Le} {x y : Le} (hr : Rise l) (h : findX l x = some y) : placeX l x < l.length ∧ l.getD (placeX l x) default = y := by
  obtain ⟨g1, g2⟩ := find_some h
  obtain ⟨j, hj, rfl⟩ := List.getElem_of_mem g1
  have : placeX l x = j := place_is hr (Nat.le_of_lt hj) (fun i hi => by
    have := List.pairwise_iff_getElem.1 hr i j (by omega) hj hi
    rw [(ahead_same g2).2]
    exact this) (fun _ => by rw [(ahead_same g2).2]; exact ahead_self _)
  rw [this]
  exact ⟨hj, by rw [List.getD, List.getElem?_eq_getElem hj]; rfl⟩

def InB (l : List Le) (x : Le) (lo hi : Nat) : Prop := (∀ t (ht : t < l.length), t < lo → aheadX l[t] x = true) ∧ (∀ t (ht : t < l.length), hi ≤ t → aheadX l[t] x = false)
theorem inb_lo {l : List Le} {x : Le} {lo hi m : Nat} (hr : Rise l) (h : InB l x lo hi) (hm : m < l.length) (ha : aheadX (l.getD m default) x = true) : InB l x (m + 1) hi := by
  rw [List.getD, List.getElem?_eq_getElem hm] at ha
  refine ⟨fun t ht htm => ?_, h.2⟩
  rcases Nat.lt_or_ge t m with h3 | h3
  · exact ahead_trans (List.pairwise_iff_getElem.1 hr t m ht hm h3) ha
  · have : t = m := by omega
    subst this; exact ha
theorem inb_hi {l : List Le} {x : Le} {lo hi m : Nat} (hr : Rise l) (h : InB l x lo hi) (hm : m < l.length) (ha : aheadX (l.getD m default) x = false) : InB l x lo m := by
  rw [List.getD, List.getElem?_eq_getElem hm] at ha
  refine ⟨h.1, fun t ht htm => ?_⟩
  rcases Nat.lt_or_ge m t with h3 | h3
  · rw [Bool.eq_false_iff]; intro h4
    have := ahead_trans (List.pairwise_iff_getElem.1 hr m t hm ht h3) h4
    rw [show (some l[m]).getD default = l[m] from rfl] at ha
    rw [this] at ha; cases ha
  · have : t = m := by omega
    subst this; exact ha

set_option maxRecDepth 20000 in
set_option maxHeartbeats 8000000 in
theorem search_any {A : Nat → Prop} {W : World} {a : Option Addr} {cap n : Nat} {l : List Le} (h : LgAt A W a cap n l) (hr : Rise l) (hl : n ≤ 1000000) (x : Le) :
    Calls Try.prog 57 #[.slice a n cap, xV x, .func (.func 39) #[] #[]] W fun e w' => e = .returned (.tuple #[.int .i64 (placeX l x : Nat), .bool (hasX l x)]) ∧ Below W.heap.size W w' := by
  obtain ⟨U, hU⟩ : ∃ U, U = W.alloc (.cells #[.int .i64 x.f, .int .u64 (x.n : Int), .int .u64 (x.t : Int)] 26) := ⟨_, rfl⟩
  have CX := Lib.hid (show Cel 3 U W.heap.size (xcE x) by rw [hU]; exact boxX W x _)
  have HB := Lib.hid (show Below W.heap.size W U from by rw [hU]; exact boxb W _)
  have L := Lib.hid (h.below HB.out)
  have HN := Lib.hid h.len
  have HR := Lib.hid hr
  have HU := Lib.hid hU.symm
  have RES := Lib.hid (show ∀ lo, lo ≤ n → InB l x lo lo → placeX l x = lo ∧ (hasX l x = true ↔ ∃ h : lo < l.length, Same x l[lo]) from fun lo hlo hI =>
    have hll : lo ≤ l.length := by rw [h.len]; exact hlo
    ⟨place_is hr hll (fun i hi => hI.1 i (by omega) hi) (fun h2 => hI.2 lo h2 (Nat.le_refl _)), has_is_at hr hll (fun i hi => hI.1 i (by omega) hi) (fun h2 => hI.2 lo h2 (Nat.le_refl _))⟩)
  clear hU h hr
  have HX := Lib.hid (show xV x = .agg #[.int .i64 x.f, .int .u64 (x.n : Int), .int .u64 (x.t : Int)] from rfl)
  rw [HX.out]
  clear HX
  go_enter Try.func57, Try.ntmps57
  go_upto_region 1 with fail
  rw [HU.out]
  go_wp2_with fail
  go_loopg [9, 10] n (fun g s9 s10 wr => ∃ lo hi : Nat, s9 = .int .i64 (lo : Nat) ∧ s10 = .int .i64 (hi : Nat) ∧ lo ≤ hi ∧ hi ≤ n ∧ hi - lo ≤ g ∧ Hid (InB l x lo hi) ∧ Hid (Below U.heap.size U wr))
  case atStart => exact ⟨0, n, rfl, rfl, Nat.zero_le _, Nat.le_refl _, by omega, Lib.hid ⟨fun t _ ht => absurd ht (Nat.not_lt_zero _), fun t h1 h2 => absurd (show t < n by rw [← HN.out]; exact h1) (by omega)⟩, Lib.hid (Below.refl _ _)⟩
  case round =>
    obtain ⟨lo, hi, rfl, rfl, hlh, hin, hg, I, B⟩ := hrel
    have C2 := CX.out.below B.out
    have b0 : ∀ p : NewBy wr, p.now.cell? ⟨W.heap.size, 0, none⟩ = some (.int .i64 x.f) := new_cell (C2.c 0 (by decide))
    have b1 : ∀ p : NewBy wr, p.now.cell? ⟨W.heap.size, 1, none⟩ = some (.int .u64 (x.n : Int)) := new_cell (C2.c 1 (by decide))
    have b2 : ∀ p : NewBy wr, p.now.cell? ⟨W.heap.size, 2, none⟩ = some (.int .u64 (x.t : Int)) := new_cell (C2.c 2 (by decide))
    clear C2
    by_cases hlt : lo < hi
    · obtain ⟨m, hm⟩ : ∃ m, m = (lo + hi) / 2 := ⟨_, rfl⟩
      have hmn : m < n := by omega
      have hlm : lo ≤ m := by omega
      have hmh : m < hi := by omega
      have em : ((lo : Int) + (hi : Int)) / 2 = (m : Int) := by omega
      have ML := Lib.hid (show m < l.length by rw [HN.out]; exact hmn)
      clear hm
      obtain ⟨b, off, rfl, -, -, x0, x1, x2⟩ := (L.out.below B.out).cell hmn
      have y0 : ∀ p : NewBy wr, p.now.cell? ⟨b, off + m * 3, none⟩ = some (.int .i64 (l.getD m default).f) := new_cell x0
      have y1 : ∀ p : NewBy wr, p.now.cell? ⟨b, off + m * 3 + 1, none⟩ = some (.int .u64 ((l.getD m default).n : Int)) := new_cell x1
      have y2 : ∀ p : NewBy wr, p.now.cell? ⟨b, off + m * 3 + 2, none⟩ = some (.int .u64 ((l.getD m default).t : Int)) := new_cell x2
      have LO := Lib.hid (fun h => inb_lo HR.out I.out ML.out h)
      have HI := Lib.hid (fun h => inb_hi HR.out I.out ML.out h)
      clear x0 x1 x2
      generalize l.getD m default = y at *
      have i0 : (0 : Int) ≤ (m : Int) := by omega
      have i1 : (m : Int) < (n : Int) := by omega
      obtain ⟨o, ho⟩ : ∃ o, ordX y x = o := ⟨_, rfl⟩
      have HO := Lib.hid (fun W => order_new ho W)
      by_cases hlo : o < 0
      · have dO : decide (o < 0) = true := decide_eq_true hlo
        have II := Lib.hid (LO.out (ord_lt.1 (by rw [ho]; exact hlo)))
        clear hlo ho LO HI
        go_upto_region 5 with fail
        refine wp_region_new (by kernel_rfl) (by kernel_rfl) ?_
        repeat
          with_reducible refine wpQuiet_step (fun K hK => ?_)
          go_simp
          first
            | (with_reducible refine hK _ ?_; clear hK K)
            | (with_reducible refine if_no (by decide) ?_; with_reducible refine hK _ ?_; clear hK K)
            | (apply Exists.intro; refine ⟨fun _ => ?_, hK _ ?_⟩; (go_at_call 39; exact new_of (HO.out _)); clear hK K)
        with_reducible refine wpQuiet_nil ?_
        rintro _ ⟨p, rfl⟩
        have B3 := Lib.hid (B.out.trans (p.b.mono B.out.size))
        go_wp2_with fail
        go_roundg (hi - (m + 1))
        case measure => omega
        case rel => exact ⟨m + 1, hi, by go_num, rfl, by omega, hin, by omega, II, B3⟩
      · have dO : decide (o < 0) = false := decide_eq_false hlo
        have II := Lib.hid (HI.out (by rw [Bool.eq_false_iff]; intro h2; exact hlo (by rw [← ho]; exact ord_lt.2 h2)))
        clear hlo ho LO HI
        go_upto_region 5 with fail
        refine wp_region_new (by kernel_rfl) (by kernel_rfl) ?_
        repeat
          with_reducible refine wpQuiet_step (fun K hK => ?_)
          go_simp
          first
            | (with_reducible refine hK _ ?_; clear hK K)
            | (with_reducible refine if_no (by decide) ?_; with_reducible refine hK _ ?_; clear hK K)
            | (apply Exists.intro; refine ⟨fun _ => ?_, hK _ ?_⟩; (go_at_call 39; exact new_of (HO.out _)); clear hK K)
        with_reducible refine wpQuiet_nil ?_
        rintro _ ⟨p, rfl⟩
        have B3 := Lib.hid (B.out.trans (p.b.mono B.out.size))
        go_wp2_with fail
        go_roundg (m - lo)
        case measure => omega
        case rel => exact ⟨lo, m, rfl, rfl, hlm, by omega, Nat.le_refl _, II, B3⟩
    · obtain rfl : lo = hi := by omega
      have RR := Lib.hid (RES.out lo hin I.out)
      by_cases hln : lo < n
      · obtain ⟨b, off, rfl, -, -, x0, x1, x2⟩ := (L.out.below B.out).cell hln
        have hll : lo < l.length := by rw [HN.out]; exact hln
        have y0 : ∀ p : NewBy wr, p.now.cell? ⟨b, off + lo * 3, none⟩ = some (.int .i64 (l.getD lo default).f) := new_cell x0
        have y1 : ∀ p : NewBy wr, p.now.cell? ⟨b, off + lo * 3 + 1, none⟩ = some (.int .u64 ((l.getD lo default).n : Int)) := new_cell x1
        have y2 : ∀ p : NewBy wr, p.now.cell? ⟨b, off + lo * 3 + 2, none⟩ = some (.int .u64 ((l.getD lo default).t : Int)) := new_cell x2
        have ey : l.getD lo default = l[lo] := by rw [List.getD, List.getElem?_eq_getElem hll]; rfl
        have HS := Lib.hid (show ordX (l.getD lo default) x = 0 ↔ hasX l x = true from by
          rw [ey, ord_eq, RR.out.2]
          exact ⟨fun e => ⟨hll, e⟩, fun ⟨_, e⟩ => e⟩)
        clear x0 x1 x2 ey
        generalize l.getD lo default = y at *
        have i0 : (0 : Int) ≤ (lo : Int) := by omega
        have i1 : (lo : Int) < (n : Int) := by omega
        obtain ⟨o, ho⟩ : ∃ o, ordX y x = o := ⟨_, rfl⟩
        have HO := Lib.hid (fun W => order_new ho W)
        have dl : decide ((lo : Int) < (n : Int)) = true := decide_eq_true i1
        have dl' : decide (lo < n) = true := decide_eq_true hln
        rw [ho] at HS
        have PR := RR.out.1
        have hx : hasX l x = (o == 0) := by
          by_cases h0 : o = 0
          · rw [HS.out.1 h0]; simp [h0]
          · have : ¬ hasX l x = true := fun h2 => h0 (HS.out.2 h2)
            rw [Bool.eq_false_iff.2 this]; simp [h0]
        obtain ⟨bo, hbo⟩ : ∃ bo, (o == 0) = bo := ⟨_, rfl⟩
        have PX := Lib.hid (show placeX l x = lo ∧ hasX l x = bo from ⟨PR, hx.trans hbo⟩)
        clear PR hx ho hln RR HS
        go_upto_region 8 with fail
        refine wp_region_new (by kernel_rfl) (by kernel_rfl) ?_
        repeat
          with_reducible refine wpQuiet_step (fun K hK => ?_)
          go_simp
          first
            | (with_reducible refine hK _ ?_; clear hK K)
            | (with_reducible refine if_no (by decide) ?_; with_reducible refine hK _ ?_; clear hK K)
            | (apply Exists.intro; refine ⟨fun _ => ?_, hK _ ?_⟩; (go_at_call 39; exact new_of (HO.out _)); clear hK K)
        with_reducible refine wpQuiet_nil ?_
        rintro _ ⟨p, rfl⟩
        have B3 := Lib.hid (HB.out.trans ((B.out.trans (p.b.mono B.out.size)).mono HB.out.size))
        go_wp2_with fail
        go_ret2
        rw [PX.out.1, PX.out.2]
        exact ⟨rfl, B3.out⟩
      · obtain rfl : lo = n := by omega
        have dl : decide ((lo : Int) < (lo : Int)) = false := decide_eq_false (by omega)
        have PR := RR.out.1
        have hx : hasX l x = false := by
          rw [Bool.eq_false_iff]; intro h2
          obtain ⟨h3, -⟩ := RR.out.2.1 h2
          rw [HN.out] at h3
          omega
        have PX := Lib.hid (And.intro PR hx)
        clear PR hx RR
        go_upto_region 8 with fail
        refine wp_region_new (by kernel_rfl) (by kernel_rfl) ?_
        repeat
          with_reducible refine wpQuiet_step (fun K hK => ?_)
          go_simp
          first
            | (with_reducible refine hK _ ?_; clear hK K)
            | (with_reducible refine if_no (by decide) ?_; with_reducible refine hK _ ?_; clear hK K)
            | (apply Exists.intro; refine ⟨fun _ => ?_, hK _ ?_⟩; (fail); clear hK K)
        with_reducible refine wpQuiet_nil ?_
        rintro _ ⟨p, rfl⟩
        have B3 := Lib.hid (HB.out.trans ((B.out.trans (p.b.mono B.out.size)).mono HB.out.size))
        go_wp2_with fail
        go_ret2
        rw [PX.out.1, PX.out.2]
        exact ⟨rfl, B3.out⟩

end Go.Proofs.Ytbmpeadoicjpnaa

/-
  trim.find, trim.passed.
-/
namespace Go.Proofs.Ytbmpeadoicjpnaa
open Go.RowKit Go.Sort

theorem place_spec {l : List Le} {x : Le} (hr : Rise l) : InB l x (placeX l x) (placeX l x) := by
  induction l with
  | nil => exact ⟨fun t ht => absurd ht (by simp), fun t ht => absurd ht (by simp)⟩
  | cons y l ih =>
    obtain ⟨h1, h2⟩ := List.pairwise_cons.1 hr
    obtain ⟨g1, g2⟩ := ih h2
    cases hy : aheadX y x
    · have hz : ∀ z ∈ l, aheadX z x = false := fun z hz => by
        rw [Bool.eq_false_iff]; intro h3
        rw [ahead_trans (h1 z hz) h3] at hy; cases hy
      have hp : placeX (y :: l) x = 0 := by
        unfold placeX
        rw [List.length_eq_zero_iff, List.filter_eq_nil_iff]
        intro z hzm
        rcases List.mem_cons.1 hzm with rfl | hzm
        · rw [hy]; decide
        · rw [hz z hzm]; decide
      rw [hp]
      refine ⟨fun t _ ht => absurd ht (Nat.not_lt_zero _), fun t ht _ => ?_⟩
      cases t with
      | zero => exact hy
      | succ t => exact hz _ (List.getElem_mem _)
    · have hp : placeX (y :: l) x = placeX l x + 1 := by
        unfold placeX
        rw [List.filter_cons_of_pos (by simpa using hy), List.length_cons]
      rw [hp]
      refine ⟨fun t ht htl => ?_, fun t ht htl => ?_⟩
      · cases t with
        | zero => exact hy
        | succ t => exact g1 t (by simpa using ht) (by omega)
      · cases t with
        | zero => omega
        | succ t => exact g2 t (by simpa using ht) (by omega)
/-- The place behind. -/
def behX (l : List Le) (x : Le) : Nat := if hasX l x = true then placeX l x + 1 else placeX l x
theorem beh_le {l : List Le} {x : Le} (hr : Rise l) : behX l x ≤ l.length := by
  unfold behX
  have hp := place_spec (x := x) hr
  have hl := place_le l x
  by_cases h : hasX l x = true
  · rw [if_pos h]
    obtain ⟨h1, -⟩ := (has_is_at hr hl (fun i hi => hp.1 i (by omega) hi) (fun h2 => hp.2 _ h2 (Nat.le_refl _))).1 h
    exact h1
  · rw [if_neg h]; exact hl
theorem beh_at {l : List Le} {x : Le} (hr : Rise l) {t : Nat} (ht : t < l.length) : behX l x ≤ t ↔ aheadX x l[t] = true := by
  have hp := place_spec (x := x) hr
  have hl := place_le l x
  have hs := has_is_at hr hl (fun i hi => hp.1 i (by omega) hi) (fun h2 => hp.2 _ h2 (Nat.le_refl _))
  have hq := List.pairwise_iff_getElem.1 hr
  constructor
  · intro h
    have hpt : placeX l x ≤ t := by unfold behX at h; split at h <;> omega
    rcases Bool.eq_false_or_eq_true (aheadX x l[t]) with h3 | h3
    · exact h3
    · obtain ⟨e1, e2⟩ := ahead_or h3 (hp.2 t ht hpt)
      rcases Nat.lt_or_ge (placeX l x) t with h4 | h4
      · have g1 := hq (placeX l x) t (by omega) ht h4
        have g2 := hp.2 _ (show placeX l x < l.length by omega) (Nat.le_refl _)
        rw [(ahead_same (show Same x l[t] from ⟨e1.symm, e2.symm⟩)).2, g1] at g2
        cases g2
      · have e : placeX l x = t := by omega
        have hh : hasX l x = true := hs.2 ⟨by omega, by simp only [e]; exact ⟨e1.symm, e2.symm⟩⟩
        unfold behX at h
        rw [if_pos hh] at h
        omega
  · intro h
    have hpt : placeX l x ≤ t := by
      rcases Nat.lt_or_ge t (placeX l x) with h3 | h3
      · have := hp.1 t ht h3
        rw [ahead_asym h] at this; cases this
      · exact h3
    unfold behX
    split
    · rename_i hh
      obtain ⟨h1, h2⟩ := hs.1 hh
      rcases Nat.lt_or_ge (placeX l x) t with h4 | h4
      · exact h4
      · have e : placeX l x = t := by omega
        simp only [e] at h2
        rw [(ahead_same h2).1, ahead_self] at h; cases h
    · exact hpt
theorem pass_is {l : List Le} {x : Le} (hr : Rise l) : moreX l x = true ↔ ∃ h : behX l x < l.length, l[behX l x].f = x.f := by
  rw [more_iff]
  constructor
  · rintro ⟨y, hy, e1, e2⟩
    obtain ⟨t, ht, rfl⟩ := List.getElem_of_mem hy
    have hb := (beh_at (x := x) hr ht).2 (ahead_iff.2 (Or.inr ⟨e1.symm, e2⟩))
    have hlt : behX l x < l.length := by omega
    refine ⟨hlt, ?_⟩
    have h1 := ahead_iff.1 ((beh_at (x := x) hr hlt).1 (Nat.le_refl _))
    rcases Nat.lt_or_ge (behX l x) t with h4 | h4
    · have h2 := ahead_iff.1 (List.pairwise_iff_getElem.1 hr _ t hlt ht h4)
      omega
    · have e : behX l x = t := by omega
      simp only [e]; exact e1
  · rintro ⟨h, e⟩
    have h1 := ahead_iff.1 ((beh_at (x := x) hr h).1 (Nat.le_refl _))
    exact ⟨_, List.getElem_mem h, e, by omega⟩

set_option maxRecDepth 20000 in
set_option maxHeartbeats 8000000 in
theorem find_any {A : Nat → Prop} {W : World} {a : Option Addr} {cap n : Nat} {l : List Le} (h : LgAt A W a cap n l) (hr : Rise l) (hl : n ≤ 1000000) (x : Le) {k : Nat} (hk : placeX l x = k) {b : Bool} (hb : hasX l x = b) :
    Calls Try.prog 36 #[gV a n cap, xV x] W fun e w' => e = .returned (.tuple #[.int .i64 (k : Nat), .bool b]) ∧ Below W.heap.size W w' := by
  subst hk hb
  obtain ⟨U, hU⟩ : ∃ U, U = (W.alloc (.cells #[.slice a n cap] 29)).alloc (.cells #[.int .i64 x.f, .int .u64 (x.n : Int), .int .u64 (x.t : Int)] 26) := ⟨_, rfl⟩
  have C1 : Cel 1 U W.heap.size (gcE a n cap) := by rw [hU]; exact (boxG W a n cap _).below (boxb _ _)
  have C2 : Cel 3 U (W.heap.size + 1) (xcE x) := by
    have := boxX (W.alloc (.cells #[.slice a n cap] 29)) x 26
    rw [← hU, show (W.alloc (.cells #[.slice a n cap] 29)).heap.size = W.heap.size + 1 by simp] at this
    exact this
  have HB := Lib.hid (show Below W.heap.size W U from by rw [hU]; exact below_alloc (boxb W _) _)
  have c0 : U.cell? ⟨W.heap.size, 0, none⟩ = some (.slice a n cap) := C1.c 0 (by decide)
  have d0 : U.cell? ⟨W.heap.size + 1, 0, none⟩ = some (.int .i64 x.f) := C2.c 0 (by decide)
  have d1 : U.cell? ⟨W.heap.size + 1, 1, none⟩ = some (.int .u64 (x.n : Int)) := C2.c 1 (by decide)
  have d2 : U.cell? ⟨W.heap.size + 1, 2, none⟩ = some (.int .u64 (x.t : Int)) := C2.c 2 (by decide)
  have CC := Lib.hid (search_any (h.below HB.out) hr hl x)
  have HU := Lib.hid hU.symm
  clear hU C1 C2 h
  generalize placeX l x = k at *
  generalize hasX l x = b at *
  have HX := Lib.hid (show xV x = .agg #[.int .i64 x.f, .int .u64 (x.n : Int), .int .u64 (x.t : Int)] from rfl)
  rw [HX.out] at CC ⊢
  clear HX
  go_enter Try.func36, Try.ntmps36
  go_upto_region 1 with fail
  rw [HU.out]
  go_wp2_with fail
  refine CC.out.mono ?_
  rintro e w1 ⟨rfl, hb⟩
  have B := Lib.hid (HB.out.trans (hb.mono HB.out.size))
  clear hb
  go_wp2_with fail
  go_ret2
  exact ⟨rfl, B.out⟩

set_option maxRecDepth 20000 in
set_option maxHeartbeats 8000000 in
theorem passed_any {A : Nat → Prop} {W : World} {a : Option Addr} {cap n : Nat} {l : List Le} (h : LgAt A W a cap n l) (hr : Rise l) (hl : n ≤ 1000000) (x : Le) {r : Bool} (hm : moreX l x = r) :
    Calls Try.prog 34 #[gV a n cap, xV x] W fun e w' => e = .returned (.bool r) ∧ Below W.heap.size W w' := by
  obtain ⟨U, hU⟩ : ∃ U, U = (W.alloc (.cells #[.slice a n cap] 29)).alloc (.cells #[.int .i64 x.f, .int .u64 (x.n : Int), .int .u64 (x.t : Int)] 26) := ⟨_, rfl⟩
  have C1 : Cel 1 U W.heap.size (gcE a n cap) := by rw [hU]; exact (boxG W a n cap _).below (boxb _ _)
  have C2 : Cel 3 U (W.heap.size + 1) (xcE x) := by
    have := boxX (W.alloc (.cells #[.slice a n cap] 29)) x 26
    rw [← hU, show (W.alloc (.cells #[.slice a n cap] 29)).heap.size = W.heap.size + 1 by simp] at this
    exact this
  have HB := Lib.hid (show Below W.heap.size W U from by rw [hU]; exact below_alloc (boxb W _) _)
  have c0 : U.cell? ⟨W.heap.size, 0, none⟩ = some (.slice a n cap) := C1.c 0 (by decide)
  have d0 : U.cell? ⟨W.heap.size + 1, 0, none⟩ = some (.int .i64 x.f) := C2.c 0 (by decide)
  have d1 : U.cell? ⟨W.heap.size + 1, 1, none⟩ = some (.int .u64 (x.n : Int)) := C2.c 1 (by decide)
  have d2 : U.cell? ⟨W.heap.size + 1, 2, none⟩ = some (.int .u64 (x.t : Int)) := C2.c 2 (by decide)
  have X1 := Lib.hid C1
  have X2 := Lib.hid C2
  have L := Lib.hid (h.below HB.out)
  have HN := Lib.hid h.len
  obtain ⟨k, HK⟩ : ∃ k, Hid (placeX l x = k) := ⟨_, rfl⟩
  obtain ⟨b, HBB⟩ : ∃ b, Hid (hasX l x = b) := ⟨_, rfl⟩
  obtain ⟨j, HJ⟩ : ∃ j, Hid (behX l x = j) := ⟨_, rfl⟩
  have CC := Lib.hid (find_any L.out hr hl x HK.out HBB.out)
  have hkn : k ≤ n := by rw [← HK.out, ← h.len]; exact place_le l x
  have hjn : j ≤ n := by rw [← HJ.out, ← h.len]; exact beh_le hr
  have hjk : j = if b = true then k + 1 else k := by rw [← HJ.out, ← HK.out, ← HBB.out]; rfl
  have RES := Lib.hid (show r = true ↔ ∃ h : j < l.length, l[j].f = x.f from by
    have := pass_is (x := x) hr
    simp only [HJ.out] at this
    rw [← hm]; exact this)
  have HU := Lib.hid hU.symm
  clear hU C1 C2 h hm hr
  have HX := Lib.hid (show xV x = .agg #[.int .i64 x.f, .int .u64 (x.n : Int), .int .u64 (x.t : Int)] from rfl)
  rw [HX.out] at CC ⊢
  clear HX
  go_enter Try.func34, Try.ntmps34
  go_upto_region 1 with fail
  rw [HU.out]
  go_wp2_with fail
  refine CC.out.mono ?_
  rintro e w1 ⟨rfl, hb⟩
  have B := Lib.hid hb
  have G := Lib.hid (L.out.below hb)
  have e0 : ∀ p : NewBy w1, p.now.cell? ⟨W.heap.size, 0, none⟩ = some (.slice a n cap) := new_cell ((X1.out.below hb).c 0 (by decide))
  have e1 : ∀ p : NewBy w1, p.now.cell? ⟨W.heap.size + 1, 0, none⟩ = some (.int .i64 x.f) := new_cell ((X2.out.below hb).c 0 (by decide))
  have B2 := Lib.hid (HB.out.trans (hb.mono HB.out.size))
  clear hb c0 d0 d1 d2 CC HU B HB X1 X2
  cases b
  · obtain rfl : j = k := hjk
    by_cases hlt : j < n
    · obtain ⟨b, off, rfl, -, -, x0, x1, x2⟩ := G.out.cell hlt
      have hll : j < l.length := by rw [HN.out]; exact hlt
      have ey : l.getD j default = l[j] := by rw [List.getD, List.getElem?_eq_getElem hll]; rfl
      have RS := Lib.hid (show r = ((l.getD j default).f == x.f) from by
        rw [ey, Bool.eq_iff_iff, RES.out]
        exact ⟨fun ⟨_, e⟩ => by simpa using e, fun e => ⟨hll, by simpa using e⟩⟩)
      have y0 : ∀ p : NewBy w1, p.now.cell? ⟨b, off + j * 3, none⟩ = some (.int .i64 (l.getD j default).f) := new_cell x0
      clear x0 x1 x2 ey
      generalize (l.getD j default).f = yf at *
      generalize x.f = xf at *
      obtain ⟨bo, hbo⟩ : ∃ bo, (yf == xf) = bo := ⟨_, rfl⟩
      obtain rfl : r = bo := RS.out.trans hbo
      have i0 : (0 : Int) ≤ (j : Int) := by omega
      have i1 : (j : Int) < (n : Int) := by omega
      have dl : decide ((j : Int) < (n : Int)) = true := decide_eq_true i1
      have dl' : decide (j < n) = true := decide_eq_true hlt
      clear RS RES
      go_upto_region 4 with fail
      refine wp_region_new (by kernel_rfl) (by kernel_rfl) ?_
      repeat
        with_reducible refine wpQuiet_step (fun K hK => ?_)
        go_simp
        first
          | (with_reducible refine hK _ ?_; clear hK K)
          | (with_reducible refine if_no (by decide) ?_; with_reducible refine hK _ ?_; clear hK K)
          | (apply Exists.intro; refine ⟨fun _ => ?_, hK _ ?_⟩; (fail); clear hK K)
      with_reducible refine wpQuiet_nil ?_
      rintro _ ⟨p, rfl⟩
      have B3 := Lib.hid (B2.out.trans (p.b.mono B2.out.size))
      go_wp2_with fail
      go_ret
      exact ⟨rfl, B3.out⟩
    · obtain rfl : j = n := by omega
      have dl : decide ((j : Int) < (j : Int)) = false := decide_eq_false (by omega)
      obtain rfl : r = false := by
        rw [Bool.eq_false_iff]; intro h2
        obtain ⟨h3, -⟩ := RES.out.1 h2
        rw [HN.out] at h3
        omega
      clear RES
      go_upto_region 4 with fail
      refine wp_region_new (by kernel_rfl) (by kernel_rfl) ?_
      repeat
        with_reducible refine wpQuiet_step (fun K hK => ?_)
        go_simp
        first
          | (with_reducible refine hK _ ?_; clear hK K)
          | (with_reducible refine if_no (by decide) ?_; with_reducible refine hK _ ?_; clear hK K)
          | (apply Exists.intro; refine ⟨fun _ => ?_, hK _ ?_⟩; (fail); clear hK K)
      with_reducible refine wpQuiet_nil ?_
      rintro _ ⟨p, rfl⟩
      have B3 := Lib.hid (B2.out.trans (p.b.mono B2.out.size))
      go_wp2_with fail
      go_ret
      exact ⟨rfl, B3.out⟩
  · obtain rfl : j = k + 1 := hjk
    by_cases hlt : k + 1 < n
    · obtain ⟨b, off, rfl, -, -, x0, x1, x2⟩ := G.out.cell hlt
      have hll : k + 1 < l.length := by rw [HN.out]; exact hlt
      have ey : l.getD (k + 1) default = l[k + 1] := by rw [List.getD, List.getElem?_eq_getElem hll]; rfl
      have RS := Lib.hid (show r = ((l.getD (k + 1) default).f == x.f) from by
        rw [ey, Bool.eq_iff_iff, RES.out]
        exact ⟨fun ⟨_, e⟩ => by simpa using e, fun e => ⟨hll, by simpa using e⟩⟩)
      have y0 : ∀ p : NewBy w1, p.now.cell? ⟨b, off + (k + 1) * 3, none⟩ = some (.int .i64 (l.getD (k + 1) default).f) := new_cell x0
      clear x0 x1 x2 ey
      generalize (l.getD (k + 1) default).f = yf at *
      generalize x.f = xf at *
      obtain ⟨bo, hbo⟩ : ∃ bo, (yf == xf) = bo := ⟨_, rfl⟩
      obtain rfl : r = bo := RS.out.trans hbo
      clear RS RES
      obtain ⟨j, hj⟩ : ∃ j, k + 1 = j := ⟨_, rfl⟩
      have ej : (k : Int) + 1 = (j : Int) := by omega
      have wj : IntKind.i64.wrap (j : Int) = (j : Int) := by rw [IntKind.wrap_i64]; omega
      rw [hj] at y0 hlt hjn
      have i0 : (0 : Int) ≤ (j : Int) := by omega
      have i1 : (j : Int) < (n : Int) := by omega
      have dl : decide ((j : Int) < (n : Int)) = true := decide_eq_true i1
      have dl' : decide (j < n) = true := decide_eq_true hlt
      clear hj
      go_upto_region 4 with fail
      refine wp_region_new (by kernel_rfl) (by kernel_rfl) ?_
      repeat
        with_reducible refine wpQuiet_step (fun K hK => ?_)
        go_simp
        first
          | (with_reducible refine hK _ ?_; clear hK K)
          | (with_reducible refine if_no (by decide) ?_; with_reducible refine hK _ ?_; clear hK K)
          | (apply Exists.intro; refine ⟨fun _ => ?_, hK _ ?_⟩; (fail); clear hK K)
      with_reducible refine wpQuiet_nil ?_
      rintro _ ⟨p, rfl⟩
      have B3 := Lib.hid (B2.out.trans (p.b.mono B2.out.size))
      go_wp2_with fail
      go_ret
      exact ⟨rfl, B3.out⟩
    · obtain rfl : n = k + 1 := by omega
      have dl : decide ((k : Int) + 1 < (k : Int) + 1) = false := decide_eq_false (by omega)
      have dl' : decide (k + 1 < k + 1) = false := decide_eq_false (by omega)
      have dl2 : decide ((k : Int) + 1 < ((k + 1 : Nat) : Int)) = false := decide_eq_false (by omega)
      obtain rfl : r = false := by
        rw [Bool.eq_false_iff]; intro h2
        obtain ⟨h3, -⟩ := RES.out.1 h2
        rw [HN.out] at h3
        omega
      clear RES
      go_upto_region 4 with fail
      refine wp_region_new (by kernel_rfl) (by kernel_rfl) ?_
      repeat
        with_reducible refine wpQuiet_step (fun K hK => ?_)
        go_simp
        first
          | (with_reducible refine hK _ ?_; clear hK K)
          | (with_reducible refine if_no (by decide) ?_; with_reducible refine hK _ ?_; clear hK K)
          | (apply Exists.intro; refine ⟨fun _ => ?_, hK _ ?_⟩; (fail); clear hK K)
      with_reducible refine wpQuiet_nil ?_
      rintro _ ⟨p, rfl⟩
      have B3 := Lib.hid (B2.out.trans (p.b.mono B2.out.size))
      go_wp2_with fail
      go_ret
      exact ⟨rfl, B3.out⟩

end Go.Proofs.Ytbmpeadoicjpnaa
