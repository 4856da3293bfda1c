/-
  DockAll.
-/
import Derived.Test.YthipdinpbihhmaaNold
import Derived.Test.YthipdinpbihhmaaVlan
import Derived.Deep.CutBlock
import Derived.Deep.CutRange
namespace Go.Proofs.Ythipdinpbihhmaa
open Go.RowKit

/-- Strings that came in, none too long. -/
def StrsB (W : World) (a : Option Addr) (cap : Nat) (l : List ByteArray) : Prop := SlV W a cap (l.map Value.string) ∧ ∀ s ∈ l, s.size ≤ 140737488355328

theorem body_new (w : World) (s : ByteArray) (hs : s.size ≤ 140737488355328) : BodyV (fun k => k = w.heap.size) (Lib.bytesWorld w 5 s) ⟨some ⟨w.heap.size, 0, none⟩, grownCap w s.size 0 5, s⟩ :=
  body_of_string w _ s (grownCap_le_maxLen _ _ _ _ (by unfold maxLen; omega))
theorem below_new (w : World) (s : ByteArray) : Below w.heap.size w (Lib.bytesWorld w 5 s) := Joins.below_bytesWorld w.heap.size w 5 s (Nat.le_refl _)

section
variable {W w : World} {N p q M c : Nat} {S T : Dk} {L : List (Value × List ByteArray)}
/-- A string comes. -/
theorem on_str {num k : Nat} {z : Int} {b : Bool} {s : ByteArray} {ss : List ByteArray} (h : DkOn W N p q M S L w) (hS : S.ok c) (hc : c ≤ 1000) (hz : (num : Int) = z) (hn : num < 18446744073709551616) (hs : s.size ≤ 140737488355328)
    (hT : S.came num s = T) (hg : S.gave num s = ss) (hk : ss.length = k) (hm : S.may num = b) :
    Calls Try.prog 10 #[.pointer (some ⟨p, 0, none⟩), .int .u64 z, .slice (some ⟨w.heap.size, 0, none⟩) s.size (grownCap w s.size 0 5)] (Lib.bytesWorld w 5 s) fun e w' => ∃ a cap, e = .returned (.tuple #[.slice a k cap, .bool b]) ∧
      DkOn W N p q M T ((.slice a k cap, ss) :: L) w' := by
  subst hz hT hg hk hm
  refine (on_take (h.below (below_new w s) h.nle) hS hc hn (body_new w s hs) hs).mono ?_
  rintro e w' ⟨a, cap, e1, h1, -⟩
  exact ⟨a, cap, e1, h1⟩
end

def AllRel (W : World) (N p q M len : Nat) (vn vi : Value) (wr : World) : Prop := ∃ i n L, vi = .int .i64 ((i : Nat) : Int) ∧ vn = .int .i64 ((n : Nat) : Int) ∧ i ≤ len + 1 ∧ n ≤ len ∧ n ≤ i ∧ (n = i ∨ n = len) ∧ DkOn W N p q M ⟨2, n + 1, []⟩ L wr

/-- The second of two comes first, then the first. -/
theorem all_turned {k : Nat} {s r : ByteArray} : (⟨2, k + 1, []⟩ : Dk).may (k + 2) = true ∧ (⟨2, k + 1, []⟩ : Dk).came (k + 2) s = ⟨2, k + 1, [(k + 2, s)]⟩ ∧ (⟨2, k + 1, []⟩ : Dk).gave (k + 2) s = [] ∧
    (⟨2, k + 1, [(k + 2, s)]⟩ : Dk).may (k + 1) = true ∧ (⟨2, k + 1, [(k + 2, s)]⟩ : Dk).came (k + 1) r = ⟨2, k + 2 + 1, []⟩ ∧ (⟨2, k + 1, [(k + 2, s)]⟩ : Dk).gave (k + 1) r = [r, s] := by
  obtain ⟨o1, o2, o3⟩ := old_ahead (k := k) (win := 2) (num := k + 2) (s := s) (by omega) (by omega)
  have hm : (⟨2, k + 1, [(k + 2, s)]⟩ : Dk).may (k + 1) = true := Dk.may_is.2 ⟨Nat.le_refl _, by show k + 1 < k + 1 + 2; omega, by
    show List.lookup (k + 1) [(k + 2, s)] = none
    rw [lookup_cons', if_neg (by show k + 1 ≠ k + 2; omega)]; rfl⟩
  have hi : ins (k + 1) r [(k + 2, s)] = [(k + 1, r), (k + 2, s)] := by rw [ins, if_neg (by show ¬ k + 2 < k + 1; omega)]
  have hg : goN (k + 1) (ins (k + 1) r [(k + 2, s)]) = ([r, s], []) := by rw [hi, goN_first, goN_first, goN]
  refine ⟨o1, o2, o3, hm, ?_, ?_⟩
  · unfold Dk.came Dk.take Dk.went
    rw [hm, if_pos rfl]
    simp only [hg]
    rfl
  · unfold Dk.gave Dk.went
    rw [hm, if_pos rfl]
    simp only [hg]
theorem all_held {k : Nat} {s : ByteArray} : (⟨2, k + 1, [(k + 2, s)]⟩ : Dk).ok (k + 1) :=
  ⟨by show 1 ≤ 2 ∧ 2 ≤ 16; omega, ⟨by show 1 ≤ k + 1; omega, Nat.le_refl _⟩, List.pairwise_singleton .., fun x hx => by
    obtain rfl := List.mem_singleton.1 hx
    exact ⟨Nat.le_refl _, by show k + 2 < k + 1 + 2; omega⟩⟩

set_option maxRecDepth 20000 in
set_option maxHeartbeats 16000000 in
theorem law_DockAll (v0 : List ByteArray) (ao0 : Option Addr) (c0 : Nat) (v1 : List Int) (ao1 : Option Addr) (c1 : Nat) (W : World) (h0 : StrsB W ao0 c0 v0) (h1 : SlV W ao1 c1 (v1.map iV)) :
    Calls Try.prog 6 #[.slice ao0 v0.length c0, .slice ao1 v1.length c1] W (DkOk W) := by
  have A0 := Lib.hid h0
  have A1 := Lib.hid h1
  have hfit := h1.fit
  have hmax := h1.max
  unfold maxLen at hmax
  rw [List.length_map] at hfit
  clear h0 h1
  go_enter Try.func6, Try.ntmps6
  go_wp2_with fail
  refine (dk_awake W).mono ?_
  rintro e w0 ⟨rfl, b0⟩
  have B0 := Lib.hid b0
  clear b0
  obtain ⟨len, hlen⟩ : ∃ x, x = v0.length := ⟨_, rfl⟩
  rw [← hlen]
  have LN := Lib.hid hlen
  clear hlen
  by_cases hb : 30 < len
  · have d1 : decide ((len : Int) > 30) = true := decide_eq_true (by omega)
    go_wp2_with fail
    go_ret
    exact ⟨rfl, B0.out⟩
  have d1 : decide ((len : Int) > 30) = false := decide_eq_false (by omega)
  go_wp2_with fail
  refine (on_new (W := W) (N := W.heap.size) 2 (by decide) (by decide) B0.out B0.out.size rfl).mono ?_
  rintro e w1 ⟨p, q, M, rfl, h1, -, -⟩
  have L1 := Lib.hid h1
  clear h1 B0 d1
  go_wp2_with fail
  go_loopw [7, 8] (fun vn vi wr => AllRel W W.heap.size p q M len vn vi wr) (fun _ v _ => len + 1 - (intOf v).toNat)
  case atStart => exact ⟨0, 0, [], rfl, rfl, by omega, by omega, Nat.le_refl _, Or.inl rfl, L1.out⟩
  case round =>
    clear L1
    obtain ⟨i, n, L, rfl, rfl, hi1, hn1, hn2, hn3, hL⟩ := hrel
    have L2 := Lib.hid hL
    clear hL
    by_cases hlt : i < len
    · obtain rfl : n = i := by omega
      obtain ⟨h, hh⟩ : ∃ x, x = n / 2 := ⟨_, rfl⟩
      have dh : (n : Int).tdiv 2 = (h : Int) := by rw [hh]; exact (Int.ofNat_tdiv n 2).symm
      have wh : IntKind.i64.wrap (h : Int) = (h : Int) := wrapN (by omega)
      obtain ⟨n1, hn1'⟩ : ∃ x, x = n + 1 := ⟨_, rfl⟩
      have wn : IntKind.i64.wrap ((n : Int) + 1) = (n1 : Int) := by rw [wrapN (by omega)]; omega
      have N1 := Lib.hid hn1'
      clear hn1' hh
      go_upto_region 12 with fail
      go_cut [9] from 37 to 57 (fun v wx => (∃ tt : Bool, v = .bool tt ∧ (tt = true → n1 < len)) ∧ wx = wr)
      case first =>
        by_cases hm : h < v1.length
        · obtain ⟨b1, f1, rfl, hbW, k1⟩ := A1.out.at h hm
          have y1 : wr.cell? ⟨b1, f1 + h, none⟩ = some (.int .i64 v1[h]) := (L2.out.be.cell (p := ⟨b1, f1 + h, none⟩) hbW).trans k1
          have g1 : decide ((h : Int) < (v1.length : Int)) = true := decide_eq_true (by omega)
          have g2 : decide (h < v1.length) = true := decide_eq_true hm
          have i0 : (0 : Int) ≤ (h : Int) := by omega
          have i1 : (h : Int) < (v1.length : Int) := by omega
          generalize v1[h] = z at *
          clear k1
          cases d : (z.tmod 2 != 0)
          · go_wp2_with fail
            go_meet
            exact ⟨⟨false, rfl, fun h => by cases h⟩, rfl⟩
          · by_cases hn : n1 < len
            · have g3 : decide ((n1 : Int) < (len : Int)) = true := decide_eq_true (by omega)
              have g4 : decide (n1 < len) = true := decide_eq_true hn
              go_wp2_with fail
              go_meet
              exact ⟨⟨true, rfl, fun _ => hn⟩, rfl⟩
            · have g3 : decide ((n1 : Int) < (len : Int)) = false := decide_eq_false (by omega)
              have g4 : decide (n1 < len) = false := decide_eq_false hn
              go_wp2_with fail
              go_meet
              exact ⟨⟨false, rfl, fun h => by cases h⟩, rfl⟩
        · have g1 : decide ((h : Int) < (v1.length : Int)) = false := decide_eq_false (by omega)
          have g2 : decide (h < v1.length) = false := decide_eq_false hm
          go_wp2_with fail
          go_meet
          exact ⟨⟨false, rfl, fun h => by cases h⟩, rfl⟩
      case rest =>
        obtain ⟨⟨tt, rfl, htt⟩, rfl⟩ := hcut
        clear dh wh A1 hfit hmax
        have hcv := fun (w : World) (s : ByteArray) => Lib.run_convert_string_bytes (P := Try.prog) w 9 31 5 s Try.underlying9 Try.underlying31 Try.underlying5
        have hn0 : n < v0.length := by rw [← LN.out]; exact hlt
        obtain ⟨ba, fa, rfl, hba, k0⟩ := A0.out.1.at n hn0
        have SZ := A0.out.2 v0[n] (List.getElem_mem _)
        have y0 : wc.cell? ⟨ba, fa + n, none⟩ = some (.string v0[n]) := (L2.out.be.cell (p := ⟨ba, fa + n, none⟩) hba).trans k0
        generalize v0[n] = s0 at *
        clear k0
        obtain ⟨m2, hm2⟩ : ∃ x, x = n + 2 := ⟨_, rfl⟩
        have M2 := Lib.hid hm2
        have NN := N1.out
        have u1 : IntKind.u64.wrap (n1 : Int) = (n1 : Int) := wrapU (by omega)
        have u2 : IntKind.u64.wrap (m2 : Int) = (m2 : Int) := wrapU (by omega)
        have w2 : IntKind.i64.wrap ((n1 : Int) + 1) = (m2 : Int) := by rw [wrapN (by omega)]; omega
        have w3 : IntKind.i64.wrap ((n : Int) + 2) = (m2 : Int) := by rw [wrapN (by omega)]; omega
        have i0 : (0 : Int) ≤ (n : Int) := by omega
        have i1 : (n : Int) < (len : Int) := by omega
        have i2 : (0 : Int) ≤ (n1 : Int) := by omega
        have hnb : n ≤ 30 := by omega
        cases tt
        · obtain ⟨o1, o2, o3⟩ := old_next (win := 2) (k := n) (s := s0) (by decide)
          have O := Lib.hid (on_str (c := 100) (num := n + 1) (z := (n1 : Int)) L2.out ((old_ok (by decide)).more (by omega)) (by decide) (by omega) (by omega) SZ o2 o3 rfl o1)
          clear o1 o2 o3 htt hm2 NN
          go_upto_region 20 with fail
          refine O.out.mono ?_
          rintro e w3' ⟨a3, c3, rfl, h3⟩
          have L3 := Lib.hid (show DkOn W W.heap.size p q M ⟨2, n1 + 1, []⟩ _ w3' from N1.out ▸ h3)
          clear h3 L2 O y0
          have NN := N1.out
          have MM := M2.out
          by_cases hmore : n1 < len
          · have g3 : decide ((n1 : Int) < (len : Int)) = true := decide_eq_true (by omega)
            have g4 : decide (n1 < len) = true := decide_eq_true hmore
            have i3 : (n1 : Int) < (len : Int) := by omega
            have hn2' : n1 < v0.length := by rw [← LN.out]; exact hmore
            obtain ⟨ba', fa', e', hba', k1⟩ := A0.out.1.at n1 hn2'
            cases e'
            have SZ1 := A0.out.2 v0[n1] (List.getElem_mem _)
            have y1 : w3'.cell? ⟨ba, fa + n1, none⟩ = some (.string v0[n1]) := (L3.out.be.cell (p := ⟨ba, fa + n1, none⟩) hba).trans k1
            generalize v0[n1] = s1 at *
            obtain ⟨o1, o2, o3⟩ := old_next (win := 2) (k := n1) (s := s1) (by decide)
            have O := Lib.hid (on_str (c := 100) (num := n1 + 1) (z := (m2 : Int)) L3.out ((old_ok (by decide)).more (by omega)) (by decide) (by omega) (by omega) SZ1 o2 o3 rfl o1)
            clear o1 o2 o3 k1 NN MM
            go_wp2_with fail
            refine O.out.mono ?_
            rintro e w4 ⟨a4, c4, rfl, h4⟩
            have L4 := Lib.hid (show DkOn W W.heap.size p q M ⟨2, m2 + 1, []⟩ _ w4 from (show m2 = n1 + 1 by have := N1.out; have := M2.out; omega) ▸ h4)
            clear h4 L3 O y1
            go_wp2_with fail
            go_roundw
            case rel => exact ⟨m2, m2, _, rfl, rfl, by have := N1.out; have := M2.out; omega, by have := N1.out; have := M2.out; omega, Nat.le_refl _, Or.inl rfl, L4.out⟩
            case measure => simp only [intOf]; have := N1.out; have := M2.out; omega
          · have g3 : decide ((n1 : Int) < (len : Int)) = false := decide_eq_false (by omega)
            have g4 : decide (n1 < len) = false := decide_eq_false hmore
            clear NN MM
            go_wp2_with fail
            go_roundw
            case rel => exact ⟨m2, n1, _, rfl, rfl, by have := N1.out; have := M2.out; omega, by have := N1.out; omega, by have := N1.out; have := M2.out; omega, Or.inr (by have := N1.out; omega), L3.out⟩
            case measure => simp only [intOf]; have := N1.out; have := M2.out; omega
        · have hmore := htt rfl
          have g3 : decide ((n1 : Int) < (len : Int)) = true := decide_eq_true (by omega)
          have g4 : decide (n1 < len) = true := decide_eq_true hmore
          have i3 : (n1 : Int) < (len : Int) := by omega
          have hn2' : n1 < v0.length := by rw [← LN.out]; exact hmore
          obtain ⟨ba', fa', e', hba', k1⟩ := A0.out.1.at n1 hn2'
          cases e'
          have SZ1 := A0.out.2 v0[n1] (List.getElem_mem _)
          have y1 : wc.cell? ⟨ba, fa + n1, none⟩ = some (.string v0[n1]) := (L2.out.be.cell (p := ⟨ba, fa + n1, none⟩) hba).trans k1
          have Y0 := Lib.hid (fun (w : World) (h : Below W.heap.size W w) => (h.cell (p := ⟨ba, fa + n, none⟩) hba).trans ((L2.out.be.cell (p := ⟨ba, fa + n, none⟩) hba).symm.trans y0))
          generalize v0[n1] = s1 at *
          obtain ⟨o1, o2, o3, o4, o5, o6⟩ := all_turned (k := n) (s := s1) (r := s0)
          have O := Lib.hid (on_str (c := 100) (num := n + 2) (z := (m2 : Int)) L2.out ((old_ok (by decide)).more (by omega)) (by decide) (by omega) (by omega) SZ1 o2 o3 rfl o1)
          have O2 := Lib.hid (fun (w : World) (L : List (Value × List ByteArray)) (h : DkOn W W.heap.size p q M ⟨2, n + 1, [(n + 2, s1)]⟩ L w) => on_str (c := 100) (num := n + 1) (z := (n1 : Int)) h ((all_held (k := n) (s := s1)).more (by omega)) (by decide) (by omega) (by omega) SZ o5 o6 rfl o4)
          clear o1 o2 o3 o4 o5 o6 htt hm2 NN k1 y0
          have wz : IntKind.i64.wrap (n : Int) = (n : Int) := wrapN (by omega)
          go_upto_region 20 with fail
          refine O.out.mono ?_
          rintro e w3' ⟨a3, c3, rfl, h3⟩
          have L3 := Lib.hid h3
          have y0 := Y0.out w3' h3.be
          clear h3 L2 O y1
          go_wp2_with fail
          refine (O2.out _ _ L3.out).mono ?_
          rintro e w4 ⟨a4, c4, rfl, h4⟩
          have L4 := Lib.hid (show DkOn W W.heap.size p q M ⟨2, m2 + 1, []⟩ _ w4 from M2.out ▸ h4)
          clear h4 L3 O2 y0 Y0
          go_wp2_with fail
          go_roundw
          case rel => exact ⟨m2, m2, _, rfl, rfl, by have := N1.out; have := M2.out; omega, by have := N1.out; have := M2.out; omega, Nat.le_refl _, Or.inl rfl, L4.out⟩
          case measure => simp only [intOf]; have := N1.out; have := M2.out; omega
    · obtain rfl : n = len := by omega
      have dk : decide ((i : Int) < (n : Int)) = false := decide_eq_false (by omega)
      have dk2 : decide (i < n) = false := decide_eq_false (by omega)
      have wi : IntKind.i64.wrap ((n : Int) + 1) = (n : Int) + 1 := wrapN (by omega)
      have wu : IntKind.u64.wrap ((n : Int) + 1) = (n : Int) + 1 := wrapU (by omega)
      go_wp2_with fail
      refine (on_next (z := (n : Int) + 1) L2.out (by simp)).mono ?_
      rintro e w4 ⟨rfl, hw4⟩
      have hw5 := hw4.symm
      clear hw4
      subst hw5
      go_wp2_with fail
      refine (on_held (c := 100) L2.out ((old_ok (by decide)).more (by omega))).mono ?_
      rintro e w6 ⟨a6, c6, rfl, -, -, h6, -⟩
      have L6 := Lib.hid h6
      clear h6
      rw [show Dk.nums ⟨2, n + 1, []⟩ = [] from rfl]
      go_wp2_with fail
      go_ret
      exact ⟨rfl, L6.out.be⟩

end Go.Proofs.Ythipdinpbihhmaa
