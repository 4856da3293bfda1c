/-
  One more, the document's own call.
-/
import Derived.Test.YtaobcglcgheboaaBref
namespace Go.Proofs.Ytaobcglcgheboaa
open Go.RowKit

def RupRel (W : World) (xs : List Nat) (i : Nat) (v : Value) (wr : World) : Prop :=
  ∃ k l : Nat, l = xs.length + k ∧ l ≤ max xs.length (i + 1) ∧ wr.ownsRow W.heap.size 27 1 v l ((xs ++ List.replicate k 0).map qV) ∧ Below W.heap.size W wr

theorem zero_more (xs : List Nat) (k : Nat) : (xs ++ List.replicate k 0).map qV ++ [qV 0] = (xs ++ List.replicate (k + 1) 0).map qV := by
  rw [List.replicate_succ', ← List.append_assoc, List.map_append (l₂ := [0])]; rfl

theorem rup_store {W wr : World} {g cap l i k : Nat} {xs : List Nat} (hl : l = xs.length + k) (hm : l = max xs.length (i + 1)) (hO : wr.ownsRow W.heap.size 27 1 (.slice (some ⟨g, 0, none⟩) l cap) l ((xs ++ List.replicate k 0).map qV)) (hb : Below W.heap.size W wr) (hx : ∀ x ∈ xs, x < QM) (hlt : atN xs i + 1 < QM) (v : Nat) (hv : v = atN xs i + 1) :
    NewQb W (upL xs i) true (.returned (.tuple #[.slice (some ⟨g, 0, none⟩) l cap, .bool true])) (wr.setCell ⟨g, i, none⟩ (.int .u64 (v : Int))) := by
  subst hv
  have h1 := (hO.stored i (qV (atN xs i + 1))).1
  have hg : W.heap.size ≤ g := (hO.lt g rfl).1
  have e : ((xs ++ List.replicate k 0).map qV).set i (qV (atN xs i + 1)) = (upL xs i).map qV := by
    rw [← List.map_set, ← up_set hm, show l - xs.length = k by omega]
  rw [e] at h1
  obtain ⟨e2, a3, c3, e3, hS⟩ := own_sl h1 (upL_lt hx hlt)
  rw [← e2] at e3
  cases e3
  exact ⟨_, cap, by rw [← e2], hS, hb.setCell hg _, fun ad e => by cases e; exact hg⟩

set_option maxRecDepth 20000 in
set_option maxHeartbeats 4000000 in
theorem rup_any {W : World} {a : Option Addr} {cap n : Nat} {xs : List Nat} {z : Int} (h : SlAt qV QM W a cap xs) (hn : xs.length = n) (hl : n ≤ 100000) {b : Bool} (hb : mayUp xs z = b) {r : List Nat} (hr : upR xs z = r) :
    Calls Try.prog 15 #[.slice a n cap, .int .i64 z] W (NewQb W r b) := by
  obtain ⟨i0, hi0, hz0, hz1, hz2⟩ := info_q Try.infoQ
  have S := Lib.hid h
  have HN := Lib.hid hn
  have O := Lib.hid (World.ownsRow_lit (base := W.heap.size) (e := 27) (size := 1) W #[] 0 (Nat.le_refl _) (by unfold maxLen; omega) rfl)
  have HB := Lib.hid (below_alloc (Below.refl _ W) (.cells #[] 27))
  have S1 := Lib.hid (h.below HB.out)
  have NIL := Lib.hid (fun e => S1.out.empty e)
  have HE := Lib.hid (show ((xs.map qV).length = n * 1) by rw [List.length_map, hn, Nat.mul_one])
  have hcase : (decide (z < 0) = true ∧ b = false ∧ r = xs) ∨ (decide (z < 0) = false ∧ decide (z > 63) = true ∧ b = false ∧ r = xs) ∨
      ∃ i : Nat, z = i ∧ decide (z < 0) = false ∧ decide (z > 63) = false ∧ i < 64 := by
    by_cases h0 : z < 0
    · have hb0 := mayUp_low (xs := xs) h0
      exact Or.inl ⟨decide_eq_true h0, by rw [← hb, hb0], by rw [← hr, upR_no hb0]⟩
    · by_cases h1 : z > 63
      · have hb0 := mayUp_high (xs := xs) (show z ≥ 64 by omega)
        exact Or.inr (Or.inl ⟨decide_eq_false h0, decide_eq_true h1, by rw [← hb, hb0], by rw [← hr, upR_no hb0]⟩)
      · exact Or.inr (Or.inr ⟨z.toNat, by omega, decide_eq_false h0, decide_eq_false h1, by omega⟩)
  have HR := Lib.hid hr
  have HBB := Lib.hid hb
  clear h hn hb hr
  rcases hcase with ⟨d1, d2, d3⟩ | ⟨d1, d2, d3, d4⟩ | ⟨i, rfl, d1, d2, hi⟩
  all_goals
    go_enter Try.func15, Try.ntmps15
    go_wp2_with (
      at_builtin
      refine wpList_append_at rfl (.tmp 7) (.tmp 8) 23 rfl W.heap.size 27 i0 (.int .u64 0) 1 8 Try.underlying23 hi0 hz0 hz1 hz2 rfl (by decide) _ 0 [] rfl ?h1 _ _ _ (xs.map qV) rfl HE.out ?h3 ?h4 (ones_q xs) ?h6 ?h7 HB.out.size ?_
      case h1 => exact O.out
      case h3 => intro e; have h0 := NIL.out e; rw [HN.out] at h0; exact h0
      case h4 => exact S1.out.news
      case h6 => unfold maxLen; omega
      case h7 => omega
      intro v2 w2 hown2 hgr2 hat2
      try rw [Nat.zero_add, List.nil_append] at hown2
      have HB2 := Lib.hid (HB.out.grown hgr2 HB.out.size (fun k h => (O.out.lt k h).1))
      have S2 := Lib.hid (S.out.below HB2.out)
      have O2 := Lib.hid hown2
      have FF := Lib.hid (own_form hown2)
      clear hown2 hgr2 hat2)
  · have R := Lib.hid (show NewQb W xs false (.returned (.tuple #[v2, .bool false])) w2 from by
      obtain ⟨-, a3, c3, e3, hS⟩ := own_sl O2.out S.out.lt
      rw [e3]
      exact ⟨a3, c3, rfl, hS, HB2.out, fun ad e => by subst e; exact (O2.out.lt ad.block (by rw [e3]; rfl)).1⟩)
    subst d2
    go_ret2
    exact R.out
  · have R := Lib.hid (show NewQb W xs false (.returned (.tuple #[v2, .bool false])) w2 from by
      obtain ⟨-, a3, c3, e3, hS⟩ := own_sl O2.out S.out.lt
      rw [e3]
      exact ⟨a3, c3, rfl, hS, HB2.out, fun ad e => by subst e; exact (O2.out.lt ad.block (by rw [e3]; rfl)).1⟩)
    subst d3
    go_ret2
    exact R.out
  · refine (rat_any (z := (i : Int)) S2.out HN.out (atZ_nat xs i)).mono ?_
    rintro e w' ⟨rfl, rfl⟩
    by_cases hf : atN xs i = 18446744073709551615
    · have R := Lib.hid (show NewQb W r b (.returned (.tuple #[v2, .bool false])) w2 from by
        obtain ⟨-, a3, c3, e3, hS⟩ := own_sl O2.out S.out.lt
        have hb0 := mayUp_full (xs := xs) (z := (i : Int)) (by rw [atZ_nat]; exact hf)
        rw [e3, ← HBB.out, hb0, ← HR.out, upR_no hb0]
        exact ⟨a3, c3, rfl, hS, HB2.out, fun ad e => by subst e; exact (O2.out.lt ad.block (by rw [e3]; rfl)).1⟩)
      rw [hf]
      clear hf
      go_wp2_with fail
      go_ret2
      exact R.out
    · have hb0 := mayUp_yes (show i < 64 by omega) hf
      have df : (((atN xs i : Nat) : Int) == 18446744073709551615) = false := beq_false_of_ne (by omega)
      have hlt : atN xs i < 18446744073709551616 := atN_lt (by decide) S.out.lt i
      have HLT := Lib.hid (show atN xs i + 1 < 18446744073709551616 by omega)
      have wv : IntKind.u64.wrap (((atN xs i : Nat) : Int) + 1) = ((atN xs i + 1 : Nat) : Int) := by rw [wrapQ (by omega)]; omega
      have BT := Lib.hid (show b = true from by rw [← HBB.out]; exact hb0)
      have RT := Lib.hid (show r = upL xs i from by rw [← HR.out]; exact upR_yes hb0)
      have I0 := Lib.hid (show RupRel W xs i v2 w2 from ⟨0, n, by rw [HN.out]; rfl, by rw [HN.out]; omega, by simpa using O2.out, HB2.out⟩)
      obtain ⟨v, hv⟩ : ∃ v, v = atN xs i := ⟨_, rfl⟩
      obtain ⟨v1, hv1⟩ : ∃ v1, v1 = atN xs i + 1 := ⟨_, rfl⟩
      rw [← hv1, ← hv] at wv
      rw [← hv] at df ⊢
      have HV := Lib.hid hv
      have HV1 := Lib.hid hv1
      clear hf hb0 hlt hv hv1 O2
      go_wp2_with fail
      go_loopw [6] (fun s wr => RupRel W xs i s wr) (fun s _ => match s with | .slice _ l _ => i + 1 - l | _ => 0)
      case atStart => exact I0.out
      case round =>
        obtain ⟨k, l, hl, hm, hO, hb⟩ := hrel
        rw [HN.out] at hl hm
        by_cases hlt : l ≤ i
        · have dl : decide ((l : Int) ≤ (i : Int)) = true := decide_eq_true (by omega)
          have dl2 : decide (l ≤ i) = true := decide_eq_true hlt
          obtain ⟨sa, sc, rfl⟩ := own_form hO
          have OA := Lib.hid (own_below hO ((Below.refl _ wr).alloc (Nat.le_refl _) (.cells #[.int .u64 0] 27)))
          have LA := Lib.hid (lit_one wr (v := 0) (by decide))
          have BA := Lib.hid (hb.alloc hb.size (.cells #[.int .u64 0] 27))
          have FIN := Lib.hid (fun s' w' (h : w'.ownsRow W.heap.size 27 1 s' (l + 1) ((xs ++ List.replicate k 0).map qV ++ [qV 0])) (hb : Below W.heap.size W w') => show RupRel W xs i s' w' from
            ⟨k + 1, l + 1, by rw [HN.out]; omega, by rw [HN.out]; omega, by rw [← zero_more]; exact h, hb⟩)
          clear hO hb hl hm
          have hl8 : l ≤ 100 := by omega
          go_wp2_with (
            at_builtin
            refine wpList_append_at rfl (.tmp 27) (.tmp 28) 23 rfl W.heap.size 27 i0 (.int .u64 0) 1 8 Try.underlying23 hi0 hz0 hz1 hz2 rfl (by decide) _ l ((xs ++ List.replicate k 0).map qV) rfl ?h1 _ _ _ [qV 0] rfl ?h2 ?h3 ?h4 (ones_q [0]) ?h6 ?h7 ?h8 ?_
            case h1 => exact OA.out
            case h2 => rfl
            case h3 => intro e; cases e
            case h4 => exact LA.out.news
            case h6 => unfold maxLen; omega
            case h7 => omega
            case h8 => exact BA.out.size
            intro v3 w3 hown3 hgr3 hat3
            have R := Lib.hid (FIN.out v3 w3 hown3 (BA.out.grown hgr3 BA.out.size (fun k h => (OA.out.lt k h).1)))
            have FF2 := Lib.hid (own_form hown3)
            clear hown3 hgr3 hat3)
          go_roundw
          case rel => exact R.out
          case measure => obtain ⟨a9, c9, rfl⟩ := FF2.out; simp only; omega
        · have dl : decide ((l : Int) ≤ (i : Int)) = false := decide_eq_false (by omega)
          have dl2 : decide (l ≤ i) = false := decide_eq_false hlt
          obtain ⟨g, sc, rfl, hg1, hg2⟩ := hO.form (by omega)
          have i0' : (0 : Int) ≤ (i : Int) := by omega
          have i1' : (i : Int) < (l : Int) := by omega
          have c0 : wr.cell? ⟨g, i, none⟩ = some (.int .u64 (v : Int)) := by
            rw [hO.cellAt i (by omega), HV.out, ← pad_at (xs := xs) (m := k), atN_of (by simp; rw [HN.out]; omega), List.getElem?_map, List.getElem?_eq_getElem (by simp; rw [HN.out]; omega)]
            rfl
          have f0 := hO.frozenAt i
          have R := Lib.hid (rup_store (by rw [HN.out]; exact hl) (by rw [HN.out]; omega) hO hb S.out.lt HLT.out v1 HV1.out)
          clear hO hb hl hm HR HBB hg1 hg2
          go_wp2_with fail
          go_ret2
          rw [RT.out, BT.out]
          exact R.out

end Go.Proofs.Ytaobcglcgheboaa
