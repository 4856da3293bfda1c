/-
  VecUps.
-/
import Derived.Test.YtaobcglcgheboaaBaw
import Derived.Test.YtaobcglcgheboaaWsl
import Derived.Test.YtaobcglcgheboaaWcel
namespace Go.Proofs.Ytaobcglcgheboaa
open Go.RowKit

def jV (x : Int) : Value := .int .i64 x
/-- Each place has as many as it was counted. -/
def Cnt (xs : List Nat) (l : List Int) : Prop := xs.length ≤ 64 ∧ ∀ i : Nat, atN xs i = if i < 64 then l.count (i : Int) else 0
theorem Cnt.nil : Cnt [] [] := ⟨by simp, fun i => by simp [atN]⟩
theorem Cnt.may {xs : List Nat} {l : List Int} (h : Cnt xs l) (hl : l.length ≤ 1000) (z : Int) : mayUp xs z = decide (0 ≤ z ∧ z < 64) := by
  by_cases h0 : z < 0
  · rw [mayUp_low h0, decide_eq_false (by omega)]
  · by_cases h1 : z < 64
    · obtain ⟨i, rfl⟩ : ∃ i : Nat, z = i := ⟨z.toNat, by omega⟩
      have := h.2 i
      have hc : l.count (i : Int) ≤ l.length := List.count_le_length
      rw [if_pos (by omega)] at this
      rw [mayUp_yes (by omega) (by omega), decide_eq_true (by omega)]
    · rw [mayUp_high (by omega), decide_eq_false (by omega)]
theorem count_more (l : List Int) (z i : Int) : (l ++ [z]).count i = l.count i + if i = z then 1 else 0 := by
  rw [List.count_append, List.count_singleton]
  by_cases e : i = z
  · subst e; simp
  · rw [if_neg e, if_neg (by simpa using fun h : z = i => e h.symm)]
theorem Cnt.more {xs : List Nat} {l : List Int} (h : Cnt xs l) (hl : l.length ≤ 1000) (z : Int) : Cnt (upR xs z) (l ++ [z]) := by
  refine ⟨Nat.le_trans upR_len (by have := h.1; omega), fun i => ?_⟩
  rw [count_more]
  have hm := h.may hl z
  by_cases hz : 0 ≤ z ∧ z < 64
  · rw [decide_eq_true hz] at hm
    obtain ⟨j, rfl⟩ : ∃ j : Nat, z = j := ⟨z.toNat, by omega⟩
    rw [upR_yes hm, upL_at, h.2 i]
    by_cases hi : i < 64
    · rw [if_pos hi, if_pos hi]
      by_cases e : i = j
      · subst e; rw [if_pos rfl, if_pos rfl]
      · rw [if_neg e, if_neg (by omega)]
    · rw [if_neg hi, if_neg hi, if_neg (by omega)]
  · rw [decide_eq_false hz] at hm
    rw [upR_no hm, h.2 i]
    by_cases hi : i < 64
    · rw [if_pos hi, if_pos hi, if_neg (by omega)]; rfl
    · rw [if_neg hi, if_neg hi]

def cV (l : List Int) : Nat → Value := fun o => .int .u64 ((l.count (o : Int) : Nat) : Int)
theorem cV_no {l : List Int} {z : Int} (hz : ¬ (0 ≤ z ∧ z < 64)) : ∀ o, o < 64 → cV l o = cV (l ++ [z]) o := fun o ho => by
  unfold cV
  rw [count_more, if_neg (by omega)]; rfl
theorem cV_yes {l : List Int} {j : Nat} : ∀ o, o < 64 → updc (cV l) j (.int .u64 ((l.count (j : Int) + 1 : Nat) : Int)) o = cV (l ++ [(j : Int)]) o := fun o ho => by
  unfold updc cV
  rw [count_more]
  by_cases e : o = j
  · subst e; rw [if_pos rfl, if_pos rfl]
  · rw [if_neg e, if_neg (by omega)]; rfl

def UpsI (W : World) (g : Nat) (a0 : List Int) (k : Nat) (v u : Value) (wr : World) : Prop :=
  ∃ (xs ys : List Nat) (a1 a2 : Option Addr) (k1 k2 : Nat), v = .slice a1 xs.length k1 ∧ u = .slice a2 ys.length k2 ∧ SlAt qV QM wr a1 k1 xs ∧ SlAt qV QM wr a2 k2 ys ∧ (∀ ad, a1 = some ad → xs ≠ [] → ad.block ≠ g) ∧ (∀ ad, a2 = some ad → ys ≠ [] → ad.block ≠ g) ∧
    Cnt xs (a0.take k) ∧ Cnt ys (a0.reverse.take k) ∧ Cel 64 wr g (cV (a0.take k)) ∧ Below W.heap.size W wr ∧ W.heap.size ≤ g

def zeros64 : Array Value := #[Value.int .u64 0, Value.int .u64 0, Value.int .u64 0, Value.int .u64 0, Value.int .u64 0, Value.int .u64 0, Value.int .u64 0, Value.int .u64 0, Value.int .u64 0, Value.int .u64 0, Value.int .u64 0, Value.int .u64 0, Value.int .u64 0, Value.int .u64 0, Value.int .u64 0, Value.int .u64 0, Value.int .u64 0, Value.int .u64 0, Value.int .u64 0, Value.int .u64 0, Value.int .u64 0, Value.int .u64 0, Value.int .u64 0, Value.int .u64 0, Value.int .u64 0, Value.int .u64 0, Value.int .u64 0, Value.int .u64 0, Value.int .u64 0, Value.int .u64 0, Value.int .u64 0, Value.int .u64 0, Value.int .u64 0, Value.int .u64 0, Value.int .u64 0, Value.int .u64 0, Value.int .u64 0, Value.int .u64 0, Value.int .u64 0, Value.int .u64 0, Value.int .u64 0, Value.int .u64 0, Value.int .u64 0, Value.int .u64 0, Value.int .u64 0, Value.int .u64 0, Value.int .u64 0, Value.int .u64 0, Value.int .u64 0, Value.int .u64 0, Value.int .u64 0, Value.int .u64 0, Value.int .u64 0, Value.int .u64 0, Value.int .u64 0, Value.int .u64 0, Value.int .u64 0, Value.int .u64 0, Value.int .u64 0, Value.int .u64 0, Value.int .u64 0, Value.int .u64 0, Value.int .u64 0, Value.int .u64 0]
theorem zeros_cel (w : World) (t : TypeId) : Cel 64 (w.alloc (.cells zeros64 t)) w.heap.size (cV []) := by
  refine (Cel.new w (List.replicate 64 (.int .u64 0)) t).conv fun o ho => ?_
  unfold cV
  simp only [List.getD, List.getElem?_replicate]
  rw [if_pos (show o < 64 by simpa using ho)]; rfl
theorem SlAt.put {w : World} {a : Option Addr} {cap : Nat} {xs : List Nat} (h : SlAt qV QM w a cap xs) {g : Nat} (hg : ∀ ad, a = some ad → xs ≠ [] → ad.block ≠ g) (j : Nat) (u : Value) : SlAt qV QM (w.setCell ⟨g, j, Option.none⟩ u) a cap xs :=
  h.carry (by simp [World.setCell]) fun ad e hx _ => Below.heap_setCell _ _ _ _ (hg ad e hx)
theorem vat_q {W : World} {a : Option Addr} {cap n : Nat} {xs : List Nat} {z : Int} (h : SlAt qV QM W a cap xs) (hn : xs.length = n) {v : Nat} (hv : atZ xs z = v) :
    Calls Try.prog 13 #[.slice a n cap, .int .i64 z] W fun e w' => e = .returned (.int .u64 (v : Int)) ∧ w' = W :=
  (vat_any h hn hv).mono fun _ _ h => ⟨h.1, h.2.symm⟩

/-- Behind a round. -/
theorem UpsI.next {W w6 : World} {g k : Nat} {a0 : List Int} {xs ys : List Nat} {a3 a4 : Option Addr} {k3 k4 : Nat} {z z2 : Int} (hz0 : a0[k]? = some z) (hz20 : a0.reverse[k]? = some z2) (hl : a0.length ≤ 1000)
    (hx : Cnt xs (a0.take k)) (hy : Cnt ys (a0.reverse.take k)) (h1 : SlAt qV QM w6 a3 k3 (upR xs z)) (h2 : SlAt qV QM w6 a4 k4 (upR ys z2)) (n1 : ∀ ad, a3 = some ad → ad.block ≠ g) (n2 : ∀ ad, a4 = some ad → ad.block ≠ g)
    (hc : Cel 64 w6 g (cV (a0.take k ++ [z]))) (hb : Below W.heap.size W w6) (hg : W.heap.size ≤ g) {l3 l4 : Nat} (e3 : (upR xs z).length = l3) (e4 : (upR ys z2).length = l4) :
    UpsI W g a0 (k + 1) (.slice a3 l3 k3) (.slice a4 l4 k4) w6 := by
  obtain ⟨hk, hz⟩ := List.getElem?_eq_some_iff.1 hz0
  obtain ⟨hk2, hz2⟩ := List.getElem?_eq_some_iff.1 hz20
  refine ⟨upR xs z, upR ys z2, a3, a4, k3, k4, by rw [e3], by rw [e4], h1, h2, fun ad e _ => n1 ad e, fun ad e _ => n2 ad e, ?_, ?_, ?_, hb, hg⟩
  · rw [List.take_succ_eq_append_getElem hk, hz]
    exact hx.more (by simp; omega) z
  · rw [List.take_succ_eq_append_getElem hk2, hz2]
    exact hy.more (by simp; omega) z2
  · rw [List.take_succ_eq_append_getElem hk, hz]
    exact hc

theorem wrapI {z : Int} (h : -9223372036854775808 ≤ z ∧ z ≤ 9223372036854775807) : IntKind.i64.wrap z = z := by
  simp only [IntKind.wrap, IntKind.bits, IntKind.signed]
  simp
  omega

set_option maxRecDepth 20000 in
set_option maxHeartbeats 16000000 in
theorem law_VecUps (a0 : List Int) (ao : Option Addr) (c0 : Nat) (W : World) (b0 : SlV W ao c0 (a0.map jV)) :
    Calls Try.prog 7 #[.slice ao a0.length c0] W (VOk W) := by
  have A0 := Lib.hid b0
  clear b0
  obtain ⟨n, hn⟩ : ∃ n, n = a0.length := ⟨_, rfl⟩
  have HN := Lib.hid hn.symm
  rw [← hn]
  clear hn
  go_enter Try.func7, Try.ntmps7
  go_wp2_with fail
  refine (vawake_any W).mono ?_
  rintro e w1 ⟨rfl, hb⟩
  have B := Lib.hid hb
  clear hb
  by_cases hbig : 60 < n
  · have d1 : decide ((n : Int) > 60) = true := decide_eq_true (by omega)
    have d2 : decide (60 < n) = true := decide_eq_true hbig
    clear hbig
    go_wp2_with fail
    go_ret
    exact ⟨rfl, B.out⟩
  have d1 : decide ((n : Int) > 60) = false := decide_eq_false (by omega)
  have d2 : decide (60 < n) = false := decide_eq_false hbig
  have hn60 : n ≤ 60 := by omega
  clear hbig
  go_wp2_with fail
  refine (cl_new w1 (z := 0) (n := 0) rfl rfl).mono ?_
  rintro e w2 ⟨a1, k1, rfl, h, hb, -⟩
  replace B := Lib.hid (B.out.trans (hb.mono B.out.size))
  have S1 := Lib.hid h
  clear h hb
  go_wp2_with fail
  refine (cl_new w2 (z := 0) (n := 0) rfl rfl).mono ?_
  rintro e w3 ⟨a2, k2, rfl, h, hb, -⟩
  replace B := Lib.hid (B.out.trans (hb.mono B.out.size))
  replace S1 := Lib.hid (S1.out.below hb)
  have S2 := Lib.hid h
  clear h hb
  go_wp2_with fail
  rw [show (#[Value.int .u64 0, Value.int .u64 0, Value.int .u64 0, Value.int .u64 0, Value.int .u64 0, Value.int .u64 0, Value.int .u64 0, Value.int .u64 0, Value.int .u64 0, Value.int .u64 0, Value.int .u64 0, Value.int .u64 0, Value.int .u64 0, Value.int .u64 0, Value.int .u64 0, Value.int .u64 0, Value.int .u64 0, Value.int .u64 0, Value.int .u64 0, Value.int .u64 0, Value.int .u64 0, Value.int .u64 0, Value.int .u64 0, Value.int .u64 0, Value.int .u64 0, Value.int .u64 0, Value.int .u64 0, Value.int .u64 0, Value.int .u64 0, Value.int .u64 0, Value.int .u64 0, Value.int .u64 0, Value.int .u64 0, Value.int .u64 0, Value.int .u64 0, Value.int .u64 0, Value.int .u64 0, Value.int .u64 0, Value.int .u64 0, Value.int .u64 0, Value.int .u64 0, Value.int .u64 0, Value.int .u64 0, Value.int .u64 0, Value.int .u64 0, Value.int .u64 0, Value.int .u64 0, Value.int .u64 0, Value.int .u64 0, Value.int .u64 0, Value.int .u64 0, Value.int .u64 0, Value.int .u64 0, Value.int .u64 0, Value.int .u64 0, Value.int .u64 0, Value.int .u64 0, Value.int .u64 0, Value.int .u64 0, Value.int .u64 0, Value.int .u64 0, Value.int .u64 0, Value.int .u64 0, Value.int .u64 0] : Array Value) = zeros64 from rfl]
  have I0 := Lib.hid (show UpsI W w3.heap.size a0 0 (.slice a1 0 k1) (.slice a2 0 k2) (w3.alloc (.cells zeros64 41)) from
    ⟨[], [], a1, a2, k1, k2, rfl, rfl, S1.out.below ((Below.refl _ w3).alloc (Nat.le_refl _) _), S2.out.below ((Below.refl _ w3).alloc (Nat.le_refl _) _), fun _ _ h => absurd rfl h, fun _ _ h => absurd rfl h, Cnt.nil, Cnt.nil, zeros_cel w3 _, B.out.alloc B.out.size _, B.out.size⟩)
  generalize w3.alloc (.cells zeros64 41) = w4 at *
  generalize w3.heap.size = g at *
  clear S1 S2 B
  go_loopw [3, 4, 6] (fun v u i wr => ∃ k : Nat, k ≤ n ∧ i = .int .i64 (k : Nat) ∧ UpsI W g a0 k v u wr) (fun _ _ i _ => n - (intOf i).toNat)
  case atStart => exact ⟨0, Nat.zero_le _, rfl, I0.out⟩
  case round =>
    obtain ⟨k, hk, rfl, xs, ys, b1, b2, m1, m2, rfl, rfl, s1, s2, ne1, ne2, hx, hy, hc, hb, hg⟩ := hrel
    have B := Lib.hid hb
    have S1 := Lib.hid s1
    have S2 := Lib.hid s2
    have HX := Lib.hid hx
    have HY := Lib.hid hy
    have C := Lib.hid hc
    have N2 := Lib.hid ne2
    have N1 := Lib.hid ne1
    have hx64 : xs.length ≤ 100000 := by have := hx.1; omega
    have hy64 : ys.length ≤ 100000 := by have := hy.1; omega
    have G := Lib.hid hg
    clear hb s1 s2 hx hy hc ne1 ne2 hg I0
    by_cases hlt : k < n
    · have kr : k < a0.length := by rw [HN.out]; exact hlt
      have kr2 : n - 1 - k < a0.length := by rw [HN.out]; omega
      have A := Lib.hid (A0.out.below B.out)
      obtain ⟨z, hz⟩ : ∃ z, a0[k] = z := ⟨_, rfl⟩
      obtain ⟨z2, hz2⟩ : ∃ z2, a0[n - 1 - k] = z2 := ⟨_, rfl⟩
      have HZ := Lib.hid (show a0[k]? = some z from by rw [List.getElem?_eq_getElem kr, hz])
      have HZ2 := Lib.hid (show a0.reverse[k]? = some z2 from by
        rw [List.getElem?_eq_getElem (by simpa using kr), List.getElem_reverse, ← hz2]
        congr 2
        rw [HN.out])
      have CA := Lib.hid (fun (w : World) (a : SlV w ao c0 (a0.map jV)) => show ∃ b off, ao = some ⟨b, off, none⟩ ∧ w.cell? ⟨b, off + k, none⟩ = some (.int .i64 z) ∧ w.cell? ⟨b, off + (n - 1 - k), none⟩ = some (.int .i64 z2) from by
        obtain ⟨b, off, e, -, h1⟩ := a.at k kr
        obtain ⟨b', off', e', -, h2⟩ := a.at (n - 1 - k) kr2
        rw [e] at e'
        cases e'
        rw [hz] at h1
        rw [hz2] at h2
        exact ⟨b, off, e, h1, h2⟩)
      obtain ⟨ab, af, hao, ca1, ca2⟩ := CA.out wr A.out
      subst hao
      have CA2 := Lib.hid (fun (w : World) (a : SlV w (some ⟨ab, af, none⟩) c0 (a0.map jV)) => show w.cell? ⟨ab, af + k, none⟩ = some (.int .i64 z) ∧ w.cell? ⟨ab, af + (n - 1 - k), none⟩ = some (.int .i64 z2) from by
        obtain ⟨b, off, e, h1, h2⟩ := CA.out w a
        cases e
        exact ⟨h1, h2⟩)
      have HAB := Lib.hid (show ab < W.heap.size from by
        obtain ⟨b, off, e, h, -⟩ := A0.out.at k kr
        cases e
        exact h)
      obtain ⟨j2, hj2⟩ : ∃ j2, j2 = n - 1 - k := ⟨_, rfl⟩
      rw [← hj2] at ca2 CA2
      have w1' : IntKind.i64.wrap ((n : Int) - 1) = (n : Int) - 1 := wrapI (by omega)
      have w2' : IntKind.i64.wrap ((n : Int) - 1 - (k : Int)) = (j2 : Int) := by rw [wrapI (by omega)]; omega
      have i0 : (0 : Int) ≤ (k : Int) := by omega
      have i1 : (k : Int) < (n : Int) := by omega
      have i2 : (0 : Int) ≤ (j2 : Int) := by omega
      have i3 : (j2 : Int) < (n : Int) := by omega
      clear CA hz hz2 kr kr2 hj2 hk
      obtain ⟨r, hr⟩ : ∃ r, r = upR xs z := ⟨_, rfl⟩
      have HR := Lib.hid hr.symm
      clear hr
      obtain ⟨rl, hrl⟩ : ∃ rl, rl = r.length := ⟨_, rfl⟩
      have HRL := Lib.hid hrl.symm
      clear hrl
      obtain ⟨r2, hr⟩ : ∃ r2, r2 = upR ys z2 := ⟨_, rfl⟩
      have HR2 := Lib.hid hr.symm
      clear hr
      obtain ⟨rl2, hrl⟩ : ∃ rl, rl = r2.length := ⟨_, rfl⟩
      have HRL2 := Lib.hid hrl.symm
      clear hrl
      have MAY := Lib.hid (HX.out.may (by simp; rw [HN.out]; omega) z)
      have XN := Lib.hid (show ys.length = ys.length from rfl)
      generalize hyl : ys.length = yl at *
      have YL := Lib.hid hyl
      generalize hxl : xs.length = xl at *
      have XL := Lib.hid hxl
      clear hyl hxl XN
      have hcase : (decide (z ≥ 0) = false ∧ Hid (¬ (0 ≤ z ∧ z < 64))) ∨ (decide (z ≥ 0) = true ∧ decide (z < 64) = false ∧ Hid (¬ (0 ≤ z ∧ z < 64))) ∨ ∃ j : Nat, z = j ∧ j < 64 := by
        by_cases h0 : z ≥ 0
        · by_cases h1 : z < 64
          · exact Or.inr (Or.inr ⟨z.toNat, by omega, by omega⟩)
          · exact Or.inr (Or.inl ⟨decide_eq_true h0, decide_eq_false h1, Lib.hid (by omega)⟩)
        · exact Or.inl ⟨decide_eq_false h0, Lib.hid (by omega)⟩
      rcases hcase with ⟨e1, e2⟩ | ⟨e0, e1, e2⟩ | ⟨j, rfl, hj⟩
      · skip
        have HMY := Lib.hid (show mayUp xs z = false from by rw [MAY.out]; exact decide_eq_false e2.out)
        go_wp2_with fail
        refine (cl_up (z := z) (b := false) S1.out XL.out hx64 HMY.out HR.out HRL.out).mono ?_
        rintro e w5 ⟨a3, k3, rfl, h3, hb, hn3⟩
        have B5 := Lib.hid (B.out.trans (hb.mono B.out.size))
        have S15 := Lib.hid h3
        have S25 := Lib.hid (S2.out.below hb)
        have C5 := Lib.hid ((C.out.below hb).conv (cV_no (z := z) e2.out))
        have N15 := Lib.hid (fun ad (e : a3 = some ad) => show ad.block ≠ g from by have := hn3 ad e; have := C.out.lt; omega)
        obtain ⟨cb1, cb2⟩ := CA2.out w5 (A.out.below hb)
        clear h3 hb hn3 ca1 ca2
        go_wp2_with fail
        refine (cl_up (z := z2) S25.out YL.out hy64 rfl HR2.out HRL2.out).mono ?_
        rintro e w6 ⟨a4, k4, rfl, h4, hb, hn4⟩
        have R := Lib.hid (UpsI.next (W := W) (g := g) (l3 := rl) (l4 := rl2) HZ.out HZ2.out (by rw [HN.out]; omega) HX.out HY.out (by rw [HR.out]; exact S15.out.below hb) (by rw [HR2.out]; exact h4) N15.out
          (fun ad e => show ad.block ≠ g from by have := hn4 ad e; have := C5.out.lt; omega) (C5.out.below hb) (B5.out.trans (hb.mono B5.out.size)) G.out (by rw [HR.out]; exact HRL.out) (by rw [HR2.out]; exact HRL2.out))
        clear h4 hb hn4 cb1 cb2
        go_wp2_with fail
        go_roundw
        case rel => exact ⟨k + 1, by omega, by go_num, R.out⟩
        case measure => simp only [intOf]; omega
      · skip
        have HMY := Lib.hid (show mayUp xs z = false from by rw [MAY.out]; exact decide_eq_false e2.out)
        go_wp2_with fail
        refine (cl_up (z := z) (b := false) S1.out XL.out hx64 HMY.out HR.out HRL.out).mono ?_
        rintro e w5 ⟨a3, k3, rfl, h3, hb, hn3⟩
        have B5 := Lib.hid (B.out.trans (hb.mono B.out.size))
        have S15 := Lib.hid h3
        have S25 := Lib.hid (S2.out.below hb)
        have C5 := Lib.hid ((C.out.below hb).conv (cV_no (z := z) e2.out))
        have N15 := Lib.hid (fun ad (e : a3 = some ad) => show ad.block ≠ g from by have := hn3 ad e; have := C.out.lt; omega)
        obtain ⟨cb1, cb2⟩ := CA2.out w5 (A.out.below hb)
        clear h3 hb hn3 ca1 ca2
        go_wp2_with fail
        refine (cl_up (z := z2) S25.out YL.out hy64 rfl HR2.out HRL2.out).mono ?_
        rintro e w6 ⟨a4, k4, rfl, h4, hb, hn4⟩
        have R := Lib.hid (UpsI.next (W := W) (g := g) (l3 := rl) (l4 := rl2) HZ.out HZ2.out (by rw [HN.out]; omega) HX.out HY.out (by rw [HR.out]; exact S15.out.below hb) (by rw [HR2.out]; exact h4) N15.out
          (fun ad e => show ad.block ≠ g from by have := hn4 ad e; have := C5.out.lt; omega) (C5.out.below hb) (B5.out.trans (hb.mono B5.out.size)) G.out (by rw [HR.out]; exact HRL.out) (by rw [HR2.out]; exact HRL2.out))
        clear h4 hb hn4 cb1 cb2
        go_wp2_with fail
        go_roundw
        case rel => exact ⟨k + 1, by omega, by go_num, R.out⟩
        case measure => simp only [intOf]; omega
      · skip
        have g0 : decide ((j : Int) ≥ 0) = true := decide_eq_true (by omega)
        have g1 : decide ((j : Int) < 64) = true := decide_eq_true (by omega)
        have g2 : decide (j < 64) = true := decide_eq_true hj
        have q0 : (0 : Int) ≤ (j : Int) := by omega
        have q1 : (j : Int) < 64 := by omega
        have HMY := Lib.hid (show mayUp xs (j : Int) = true from by rw [MAY.out]; exact decide_eq_true (by omega))
        have hcnt : (a0.take k).count (j : Int) ≤ 60 := Nat.le_trans List.count_le_length (by simp; rw [HN.out]; omega)
        obtain ⟨v, hv⟩ : ∃ v, v = (a0.take k).count (j : Int) := ⟨_, rfl⟩
        obtain ⟨v1, hv1⟩ : ∃ v1, v1 = v + 1 := ⟨_, rfl⟩
        have wv : IntKind.u64.wrap ((v : Int) + 1) = (v1 : Int) := by rw [wrapQ (by omega)]; omega
        have HV := Lib.hid (show v1 = (a0.take k).count (j : Int) + 1 from by rw [hv1, hv])
        have HV0 := Lib.hid hv
        clear hcnt hv hv1
        go_wp2_with fail
        refine (cl_up (z := (j : Int)) (b := true) S1.out XL.out hx64 HMY.out HR.out HRL.out).mono ?_
        rintro e w5 ⟨a3, k3, rfl, h3, hb, hn3⟩
        have B5 := Lib.hid (show Below W.heap.size W (w5.setCell ⟨g, j, none⟩ (.int .u64 (v1 : Int))) from (B.out.trans (hb.mono B.out.size)).setCell G.out _)
        have N15 := Lib.hid (fun ad (e : a3 = some ad) => show ad.block ≠ g from by have := hn3 ad e; have := C.out.lt; omega)
        have S15 := Lib.hid (h3.put (fun ad e _ => N15.out ad e) j (.int .u64 (v1 : Int)))
        have S25 := Lib.hid ((S2.out.below hb).put N2.out j (.int .u64 (v1 : Int)))
        have c0 : w5.cell? ⟨g, j, none⟩ = some (.int .u64 (v : Int)) := by rw [HV0.out]; exact (C.out.below hb).c j hj
        have f0 := (C.out.below hb).fz j
        have C5 := Lib.hid (((C.out.below hb).put j (.int .u64 (v1 : Int))).conv (by rw [HV.out]; exact cV_yes))
        obtain ⟨cb1, cb2⟩ := CA2.out w5 (A.out.below hb)
        have AS := Lib.hid ((A.out.below hb).carry (w' := w5.setCell ⟨g, j, none⟩ (.int .u64 (v1 : Int))) (by simp [World.setCell]) (fun ad e _ _ => by cases e; exact Below.heap_setCell _ _ _ _ (by have := HAB.out; have := G.out; show ab ≠ g; omega)))
        obtain ⟨cc1, cc2⟩ := CA2.out _ AS.out
        clear h3 hb hn3 ca1 ca2 AS
        go_wp2_with fail
        refine (cl_up (z := z2) S25.out YL.out hy64 rfl HR2.out HRL2.out).mono ?_
        rintro e w6 ⟨a4, k4, rfl, h4, hb, hn4⟩
        have R := Lib.hid (UpsI.next (W := W) (g := g) (l3 := rl) (l4 := rl2) HZ.out HZ2.out (by rw [HN.out]; omega) HX.out HY.out (by rw [HR.out]; exact S15.out.below hb) (by rw [HR2.out]; exact h4) N15.out
          (fun ad e => show ad.block ≠ g from by have := hn4 ad e; have := C5.out.lt; omega) (C5.out.below hb) (B5.out.trans (hb.mono B5.out.size)) G.out (by rw [HR.out]; exact HRL.out) (by rw [HR2.out]; exact HRL2.out))
        clear h4 hb hn4 cb1 cb2 cc1 cc2
        go_wp2_with fail
        go_roundw
        case rel => exact ⟨k + 1, by omega, by go_num, R.out⟩
        case measure => simp only [intOf]; omega
    · obtain rfl : k = n := by omega
      have hkk : decide ((k : Int) < (k : Int)) = false := decide_eq_false (by omega)
      have hx := HX.out
      have hy := HY.out
      rw [List.take_of_length_le (by rw [HN.out]; exact Nat.le_refl _)] at hx
      rw [List.take_of_length_le (by simp; rw [HN.out]; exact Nat.le_refl _)] at hy
      have hc := C.out
      rw [List.take_of_length_le (by rw [HN.out]; exact Nat.le_refl _)] at hc
      have HC := Lib.hid hc
      have HAT := Lib.hid hx.2
      have EQ := Lib.hid (cmpZ_alike (a := xs) (b := ys) fun i => by rw [hx.2, hy.2, List.count_reverse])
      clear hx hy hc HX HY C hlt
      generalize hyl : ys.length = yl at *
      have YL := Lib.hid hyl
      generalize hxl : xs.length = xl at *
      have XL := Lib.hid hxl
      clear hyl hxl
      go_wp2_with fail
      go_loopw [9] (fun i w => ∃ k q : Nat, k ≤ 64 ∧ i = .int .i64 (k : Nat) ∧ w = wr.drewN q) (fun i _ => 64 - (intOf i).toNat)
      case atStart => exact ⟨0, 0, by omega, rfl, rfl⟩
      case round =>
        obtain ⟨i, q, hi, rfl, rfl⟩ := hrel
        by_cases hlt : i < 64
        · have t0 : decide ((i : Int) < 64) = true := decide_eq_true (by omega)
          have t1 : decide (i < 64) = true := decide_eq_true hlt
          have q0 : (0 : Int) ≤ (i : Int) := by omega
          have q1 : (i : Int) < 64 := by omega
          obtain ⟨v, hv⟩ : ∃ v, v = a0.count (i : Int) := ⟨_, rfl⟩
          have HV := Lib.hid (show atZ xs (i : Int) = v from by rw [atZ_nat, HAT.out i, if_pos hlt, hv])
          have c0 : (wr.drewN q).cell? ⟨g, i, none⟩ = some (.int .u64 (v : Int)) := by rw [hv]; exact (HC.out.drewN q).c i hlt
          have hne : ((v : Int) != (v : Int)) = false := by simp
          have CQ := Lib.hid (fun n => vat_q (z := (i : Int)) ((S1.out.drewN q).drewN n) XL.out HV.out)
          have hQ := Lib.hid (fun n => (show ∃ q', (wr.drewN q).drewN n = wr.drewN q' from ⟨q + n, by rw [World.drewN_drewN]⟩))
          clear hv
          generalize wr.drewN q = ww at *
          go_wp2_with fail
          go_quiet ((go_at_call 13; exact Calls.quiet_of_same (CQ.out _)))
          go_wp2_with fail
          go_roundw
          case rel => exact (hQ.out _).elim fun q' e => ⟨i + 1, q', by omega, by go_num, e⟩
          case measure => simp only [intOf]; omega
        · obtain rfl : i = 64 := by omega
          have T1 := Lib.hid (S1.out.drewN q)
          have T2 := Lib.hid (S2.out.drewN q)
          have BB := Lib.hid (drewN_b B.out q)
          generalize wr.drewN q = ww at *
          go_wp2_with fail
          refine (vcmp_any (z := 0) T1.out T2.out XL.out YL.out EQ.out).mono ?_
          rintro e w' ⟨rfl, rfl⟩
          go_wp2_with fail
          go_ret
          exact ⟨rfl, BB.out⟩

end Go.Proofs.Ytaobcglcgheboaa
