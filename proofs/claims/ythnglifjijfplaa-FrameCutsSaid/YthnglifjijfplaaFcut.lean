/-
  A frame that is cut short, or has something behind it, is none: the walk of the statement FrameCuts.
-/
import Derived.Test.YthnglifjijfplaaFaw
namespace Go.Proofs.Ythnglifjijfplaa
open Go.RowKit

/-- One more behind a row of one's own. -/
theorem own_snoc {W w w5 : World} {q : List Nat} {m c4 : Nat} {a4 : Option Addr} {v5 : Value} {o : Obj} (hB : Below W.heap.size W w) (hO : w.ownsRow W.heap.size 5 1 (.slice a4 q.length c4) q.length (q.map bV))
    (hown : w5.ownsRow W.heap.size 5 1 v5 (q.length + 1) (q.map bV ++ [bV m])) (hgr : (w.alloc o).grownBy w5 (Value.slice a4 q.length c4).ownBlock) (hq : ∀ x ∈ q, x < 256) (hm : m < 256) :
    ∃ a5 c5, v5 = .slice a5 (q.length + 1) c5 ∧ SlAt bV 256 w5 a5 c5 (q ++ [m]) ∧ Below W.heap.size W w5 := by
  have e : q.map bV ++ [bV m] = (q ++ [m]).map bV := by simp
  have e2 : q.length + 1 = (q ++ [m]).length := by simp
  have hl : ∀ x ∈ q ++ [m], x < 256 := fun x hx => (List.mem_append.1 hx).elim (hq x) (fun h => by rw [List.mem_singleton.1 h]; exact hm)
  rw [e, e2] at hown
  obtain ⟨_, a5, c5, rfl, hs⟩ := own_sl hown hl
  exact ⟨a5, c5, by rw [e2], hs, (hB.alloc hB.size o).grown hgr (by have := hB.size; simp; omega) (fun b h => (hO.lt b h).1)⟩
theorem gotF_no {bs : List Nat} (h : okF bs = false) : gotF bs = zeroF := by unfold gotF; rw [h]; rfl

set_option maxRecDepth 20000 in
set_option maxHeartbeats 16000000 in
theorem law_FrameCuts (f : Frm) (a : Option Addr) (c : Nat) (cut : Int) (more : Nat) (W : World) (hs : SlAt bV 256 W a c f.bod) (hn : f.num < 18446744073709551616) (hc : -9223372036854775808 ≤ cut ∧ cut ≤ 9223372036854775807) (hm : more < 256) :
    Calls Try.prog 5 #[.agg (frmA f a c), .int .i64 cut, .int .u8 (more : Nat)] W (Ok W) := by
  obtain ⟨i0, hi0, hz0, hz1, hz2⟩ := info_parts Try.infoB
  have X1 := Fun.new hs 27
  have hf := hs.fit
  have hx := hs.max
  unfold maxLen at hx
  have O := Lib.hid hn
  have M := Lib.hid hm
  have hc1 := hc.1
  have hc2 := hc.2
  clear hs hn hc hm
  obtain ⟨q, hq⟩ : ∃ q, bytesF f = q := ⟨_, rfl⟩
  have E := Lib.hid hq
  clear hq
  go_enter Try.func5, Try.ntmps5
  go_wp2_with fail
  generalize W.alloc (.cells (frmA f a c) 27) = w0 at X1 ⊢
  refine (awake_any _).mono ?_
  rintro e w1 ⟨rfl, hb⟩
  have X2 := Fun.of hb X1
  clear hb X1
  obtain ⟨j0, j1, j2⟩ := X2.out.bx
  go_wp2_with fail
  refine (fput_is X2.out.sl O.out E.out).mono ?_
  rintro e w2 ⟨a2, c2, rfl, hs2, hb⟩
  have X3 := Fun.of hb X2
  have S3 := Lib.hid hs2
  have qm := hs2.max
  have qf := hs2.fit
  unfold maxLen at qm
  clear hb X2 hs2 j0 j1 j2
  obtain ⟨j0, j1, j2⟩ := X3.out.bx
  by_cases l1 : 300 < f.bod.length
  · have d1 : decide ((300 : Int) < (f.bod.length : Int)) = true := decide_eq_true (by omega)
    have d1' : decide (300 < f.bod.length) = true := decide_eq_true l1
    go_wp2_with fail
    go_ret
    exact ⟨rfl, X3.out.be⟩
  have d1 : decide ((300 : Int) < (f.bod.length : Int)) = false := decide_eq_false (by omega)
  have d1' : decide (300 < f.bod.length) = false := decide_eq_false l1
  by_cases l2 : q = []
  · subst l2
    go_wp2_with fail
    go_ret
    exact ⟨rfl, X3.out.be⟩
  have lq := List.length_pos_iff.2 l2
  have d2 : ((q.length : Int) == 0) = false := by simp [l2]
  have G := Lib.hid (show goodF f = true by
    cases hg : goodF f with
    | true => rfl
    | false => exact absurd (by rw [← E.out]; unfold bytesF; rw [hg]; rfl) l2)
  have P := Lib.hid (show putF f = q by rw [← E.out]; unfold bytesF; rw [G.out]; rfl)
  have QL := Lib.hid (show q.length ≤ 30040 by rw [← P.out]; exact (putF_len O.out G.out).2)
  have C1 := Lib.hid (show okF (q ++ [more]) = false by rw [← P.out]; exact okF_more O.out G.out more)
  have C2 := Lib.hid (fun (k : Nat) (h : k < q.length) => show okF (q.take k) = false from P.out ▸ okF_cut O.out G.out (k := k) (by rw [P.out]; exact h))
  have OW := Lib.hid (World.ownsRow_lit (base := w2.heap.size) (e := 5) (size := 1) w2 #[] 0 (Nat.le_refl _) (by unfold maxLen; omega) rfl)
  have LM := Lib.hid (show q.length ≤ 30040 from QL.out)
  have hq1 : q.length ≤ 30040 := QL.out
  clear l1 l2
  go_wp2_with (first
             | (at_builtin; refine wpList_append_at rfl (.tmp 28) (.tmp 30) 23 rfl w2.heap.size 5 i0 (.int .u8 0) 1 1 Try.underlying23 hi0 hz0 hz1 hz2 rfl (by decide) _ _ _ rfl (World.ownsRow.alloc H4.out _) (some ⟨w4.heap.size, 0, none⟩) 1 1 [bV more] rfl rfl (fun e => by cases e) (fun ad e => by cases e; exact World.news_of_block (heap_alloc_new _ _)) (by simp [bV, Value.oneCell']) (by unfold maxLen; omega) (by omega) (by simp; omega) ?_
                intro v5 w5 hown5 hgr5 _
                obtain ⟨a5, c5, rfl, hs5, hb5⟩ := own_snoc B4.out H4.out hown5 hgr5 S3.out.lt M.out
                have S5 := Lib.hid hs5
                have B5 := Lib.hid hb5
                clear hown5 hgr5 hs5 hb5)
             | (at_builtin; refine wpList_append_at rfl (.tmp 26) (.tmp 27) 23 rfl w2.heap.size 5 i0 (.int .u8 0) 1 1 Try.underlying23 hi0 hz0 hz1 hz2 rfl (by decide) _ _ _ rfl OW.out _ _ _ (q.map bV) rfl (by simp) S3.out.empty (S3.out.below ((Below.refl _ _).alloc (Nat.le_refl _) _)).news (ones_b _) (by unfold maxLen; omega) (by omega) (by simp) ?_
                intro v4 w4 hown4 hgr4 hat4
                obtain ⟨a4, c4, rfl⟩ := own_form hown4
                have hb4 : Below w2.heap.size w2 w4 := ((Below.refl _ _).alloc (Nat.le_refl _) _).grown hgr4 (by simp) (fun k h => (OW.out.lt k h).1)
                try rw [Nat.zero_add, List.nil_append] at hown4
                have H4 := Lib.hid hown4
                have B4 := Lib.hid hb4
                have z4 : w2.heap.size ≤ w4.heap.size := hb4.size
                clear hown4 hgr4 hat4 hb4))
  refine (fget_of (len := q.length + 1) S5.out (by simp) (by omega) (gotF_no C1.out) C1.out).mono ?_
  rintro e w6 ⟨a6, c6, rfl, hs6, hb6, _⟩
  have B6 := B5.out.trans (hb6.mono B5.out.size)
  have X6 := Fun.alloc (o := .cells (frmA zeroF a6 c6) 27) (Fun.of B6 X3)
  have S6 := Lib.hid ((S3.out.below B6).below (below_alloc (Below.refl _ _) (.cells (frmA zeroF a6 c6) 27)))
  clear hb6 hs6 B6 B5 S5 B4 H4 S3 X3 OW j0 j1 j2 d1 d1'
  by_cases cn : cut < 0
  · have e1 : decide (cut < 0) = true := decide_eq_true cn
    go_wp2_with fail
    go_ret
    exact ⟨rfl, X6.out.be⟩
  obtain ⟨j, rfl⟩ := Int.eq_ofNat_of_zero_le (by omega : 0 ≤ cut)
  have e1 : decide ((j : Int) < 0) = false := decide_eq_false (by omega)
  clear cn
  by_cases cl : q.length ≤ j
  · have e2 : decide ((q.length : Int) ≤ (j : Int)) = true := decide_eq_true (by omega)
    have e2' : decide (q.length ≤ j) = true := decide_eq_true cl
    go_wp2_with fail
    go_ret
    exact ⟨rfl, X6.out.be⟩
  have e2 : decide ((q.length : Int) ≤ (j : Int)) = false := decide_eq_false (by omega)
  have e2' : decide (q.length ≤ j) = false := decide_eq_false cl
  have jq : j < q.length := by omega
  have JL := Lib.hid (show (q.take j).length = j by rw [List.length_take]; omega)
  have CJ := Lib.hid (C2.out j jq)
  have QJ := Lib.hid (show j ≤ 1000000 by omega)
  clear cl
  go_wp2_with fail
  generalize w6.alloc (.cells (frmA zeroF a6 c6) 27) = w7 at X6 S6 ⊢
  refine (fget_of (S6.out.take j) JL.out QJ.out (gotF_no CJ.out) CJ.out).mono ?_
  rintro e w9 ⟨a9, c9, rfl, _, hb, _⟩
  have X9 := Fun.alloc (o := .cells (frmA zeroF a9 c9) 27) (Fun.of hb X6)
  clear hb
  go_wp2_with fail
  go_ret
  exact ⟨rfl, X9.out.be⟩

end Go.Proofs.Ythnglifjijfplaa
