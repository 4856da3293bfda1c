/-
  Numbers are written, cut short, and read.
-/
import Derived.Test.YthakbcfjpnielaaPaw
namespace Go.Proofs.Ythakbcfjpnielaa
open Go.RowKit

def lenV (n : Nat) : Value := .int .i64 (n : Nat)
/-- How long what is written so far was, number by number. -/
def endsL (l : List Nat) (j : Nat) : List Nat := (List.range j).map fun i => (manyL (l.take (i + 1))).length
theorem endsL_len (l : List Nat) (j : Nat) : (endsL l j).length = j := by simp [endsL]
theorem endsL_snoc (l : List Nat) (j : Nat) : endsL l (j + 1) = endsL l j ++ [(manyL (l.take (j + 1))).length] := by
  unfold endsL
  rw [List.range_succ, List.map_append]; rfl
theorem endsL_get {l : List Nat} {n j : Nat} (h : j < n) : (endsL l n)[j]? = some (manyL (l.take (j + 1))).length := by
  unfold endsL
  simp [h]

theorem many_drop {l : List Nat} {k : Nat} (h : k < l.length) : manyL (l.drop k) = lebL l[k] ++ manyL (l.drop (k + 1)) := by
  rw [List.drop_eq_getElem_cons h]; rfl
theorem many_split (l : List Nat) (k : Nat) : manyL l = manyL (l.take k) ++ manyL (l.drop k) := by
  have e : ∀ a b : List Nat, manyL (a ++ b) = manyL a ++ manyL b := by
    intro a b
    induction a with
    | nil => rfl
    | cons x r ih => show lebL x ++ manyL (r ++ b) = _; rw [ih, ← List.append_assoc]; rfl
  conv => lhs; rw [← List.take_append_drop k l]
  exact e _ _

/-- What a reader of the first 'cut' bytes holds behind j numbers. -/
def cutR (l : List Nat) (cut j : Nat) : Option (List Nat) :=
  if (manyL (l.take j)).length ≤ cut then some ((manyL (l.drop j)).take (cut - (manyL (l.take j)).length)) else none
def cutB (l : List Nat) (cut j : Nat) : Bool := decide (cut < (manyL (l.take j)).length)

theorem cut_zero (l : List Nat) (cut : Nat) : cutR l cut 0 = some ((manyL l).take cut) := by simp [cutR, manyL]

theorem cut_len {l : List Nat} {j : Nat} (h : j < l.length) : (manyL (l.take (j + 1))).length = (manyL (l.take j)).length + (lebL l[j]).length := by
  rw [manyL_take h, List.length_append]

/-- A number is read ahead of the cut, or none is behind it. -/
theorem cut_step {l : List Nat} {cut j : Nat} (h : j < l.length) (hl : ∀ n ∈ l, n < 18446744073709551616) :
    numR 18446744073709551615 (cutR l cut j) = (if cutB l cut (j + 1) then 0 else l[j], cutR l cut (j + 1)) := by
  have hn := hl l[j] (List.getElem_mem h)
  have e := cut_len h
  have hp := (leb_len hn).1
  unfold cutR cutB
  rw [many_drop h]
  generalize (manyL (l.take (j + 1))).length = b at *
  generalize (manyL (l.take j)).length = a at *
  generalize manyL (l.drop (j + 1)) = r at *
  generalize l[j] = n at *
  by_cases h1 : b ≤ cut
  · rw [if_pos (show a ≤ cut by omega), if_pos h1, if_neg (show ¬ decide (cut < b) = true by simp; omega)]
    have et : (lebL n ++ r).take (cut - a) = lebL n ++ r.take (cut - b) := by
      rw [List.take_append, List.take_of_length_le (by omega)]
      congr 2
      omega
    rw [et, num_back hn (by omega)]
  · rw [if_neg h1, if_pos (show decide (cut < b) = true by simp; omega)]
    by_cases h2 : a ≤ cut
    · rw [if_pos h2]
      have et : (lebL n ++ r).take (cut - a) = (lebL n).take (cut - a) := by rw [List.take_append_of_le_length (by omega)]
      rw [et]
      have hg := getN_cut (n := n) (k := cut - a) (by unfold szN; omega)
      show (if (getN ((lebL n).take (cut - a))).2 = 0 ∨ 18446744073709551615 < (getN ((lebL n).take (cut - a))).1 then ((0 : Nat), (none : Option (List Nat))) else _) = _
      rw [hg, if_pos (Or.inl rfl)]
    · rw [if_neg h2]; rfl

theorem cutB_mono {l : List Nat} {cut j : Nat} (h : j < l.length) (hb : cutB l cut j = true) : cutB l cut (j + 1) = true := by
  have e := cut_len h
  unfold cutB at hb ⊢
  simp at hb ⊢
  omega

theorem cut_end {l : List Nat} {cut : Nat} (h : cut < (manyL l).length) : cutR l cut l.length = none := by
  unfold cutR
  rw [List.take_length, if_neg (by omega)]

/-- What the law holds while it writes. -/
def CutRel1 (W : World) (N p : Nat) (l : List Nat) (ev i : Value) (wr : World) : Prop :=
  ∃ j F, j ≤ l.length ∧ i = .int .i64 (j : Nat) ∧ WrAt wr N p F (manyL (l.take j)) ∧ Below N W wr ∧ wr.ownsRow N 3 1 ev j ((endsL l j).map lenV) ∧ ∀ k, ev.ownBlock = some k → ¬ F k
/-- And while it reads. -/
def CutRel2 (W : World) (N q : Nat) (S : Nat → Prop) (l : List Nat) (cut : Nat) (ev : Value) (n : Nat) (bv i : Value) (wr : World) : Prop :=
  ∃ j, j ≤ l.length ∧ i = .int .i64 (j : Nat) ∧ bv = .bool (cutB l cut j) ∧ RdOn W N q S (cutR l cut j) wr ∧ wr.ownsRow N 3 1 ev n ((endsL l n).map lenV) ∧ ∀ k, ev.ownBlock = some k → k < q

theorem num_cell {l : List Nat} {ao : Option Addr} {cap j : Nat} {W wr : World} (hs : SlAt qV 18446744073709551616 W ao cap l) (hB : Below W.heap.size W wr) (hj : j < l.length) :
    ∃ b off, ao = some ⟨b, off, none⟩ ∧ wr.cell? ⟨b, off + j, none⟩ = some (.int .u64 (l[j] : Nat)) ∧ l[j] < 18446744073709551616 := by
  obtain ⟨b, off, e, _, hc⟩ := (hs.below hB).cell j hj
  exact ⟨b, off, e, hc, hs.lt _ (List.getElem_mem hj)⟩

theorem Try.infoI : (Try.prog.info? 3).map (fun i => (i.zero, i.size, i.bytes)) = some (some (.int .i64 0), 1, 8) := by kernel_rfl

theorem own_keep {w w' : World} {F : Nat → Prop} {N e n : Nat} {v : Value} {xs : List Value} (h : w.ownsRow N e 1 v n xs) (hk : Keep F w w') (hF : ∀ k, v.ownBlock = some k → ¬ F k) : w'.ownsRow N e 1 v n xs :=
  own_carry h (fun k hk2 => hk.block k (h.lt k hk2).2 (hF k hk2))

theorem cut_next {W wr w2 w3 w4 : World} {N p j x : Nat} {F F2 : Nat → Prop} {l : List Nat} {ev v2 : Value} {o : Obj} (hx : manyL (l.take (j + 1)) = manyL (l.take j) ++ lebL x) (hj : j < l.length) (hA : WrAt wr N p F (manyL (l.take j))) (hB : Below N W wr) (hO : wr.ownsRow N 3 1 ev j ((endsL l j).map lenV)) (hap : ∀ k, ev.ownBlock = some k → ¬ F k)
    (hA2 : WrAt w2 N p F2 (manyL (l.take j) ++ lebL x)) (hK2 : Keep F wr w2) (hF2 : ∀ k, F2 k → F k ∨ wr.heap.size ≤ k) (hb3 : Below w2.heap.size w2 w3)
    (hown : w4.ownsRow N 3 1 v2 (j + 1) ((endsL l j).map lenV ++ [lenV (manyL (l.take j) ++ lebL x).length])) (hgr : (w3.alloc o).grownBy w4 ev.ownBlock) (hat : ∀ k, v2.ownBlock = some k → ev.ownBlock = some k ∨ (w3.alloc o).heap.size ≤ k) :
    CutRel1 W N p l v2 (.int .i64 ((j + 1 : Nat) : Int)) w4 := by
  have hs2 := hK2.size
  have hs3 := hb3.size
  have hapF2 : ∀ k, ev.ownBlock = some k → ¬ F2 k := fun k e f => (hF2 k f).elim (hap k e) (fun l => by have := (hO.lt k e).2; omega)
  have hk34 : Keep (fun k => ev.ownBlock = some k) w2 w4 := (Keep.ofBelow (F := fun k => ev.ownBlock = some k) hb3).alloc o |>.grown hgr (fun k e => Or.inl e)
  have hNw : N ≤ wr.heap.size := hA.size.1
  refine ⟨j + 1, F2, hj, rfl, ?_, ?_, ?_, fun k e f => ?_⟩
  · rw [hx]
    exact hA2.keep hk34 (fun k f e => hapF2 k e f)
  · refine (hB.trans (hK2.below hNw (fun k f => (hA.size.2.2 k f).1))).trans (hk34.below (Nat.le_trans hNw hs2) (fun k e => (hO.lt k e).1))
  · rw [endsL_snoc, List.map_append, hx]
    exact hown
  · rcases hat k e with e2 | e2
    · exact hapF2 k e2 f
    · have := (hA2.size.2.2 k f).2
      simp at e2
      omega

set_option maxRecDepth 20000 in
set_option maxHeartbeats 4000000 in
theorem law_PaneCuts (l : List Nat) (ao : Option Addr) (cap : Nat) (cut : Int) (W : World) (hs : SlAt qV 18446744073709551616 W ao cap l) (hc : -9223372036854775808 ≤ cut ∧ cut ≤ 9223372036854775807) :
    Calls Try.prog 6 #[.slice ao l.length cap, .int .i64 cut] W (Ok W) := by
  obtain ⟨i0, hi0, hz0, hz1, hz2⟩ := info_parts Try.infoI
  have HS := Lib.hid hs
  have hfit := hs.fit
  have hmax := hs.max
  unfold maxLen at hmax
  clear hs
  go_enter Try.func6, Try.ntmps6
  go_wp2_with fail
  refine (awake_any W).mono ?_
  rintro e w0 ⟨rfl, hb0⟩
  have B0 := Lib.hid hb0
  clear hb0
  by_cases hlen : 20 < l.length
  · go_wp2_with fail
    go_ret
    exact ⟨rfl, B0.out⟩
  · go_wp2_with fail
    refine (wnew_any w0 W.heap.size B0.out.size).mono ?_
    rintro e w1 ⟨rfl, hA, hB⟩
    obtain ⟨p, hp⟩ : ∃ p, w0.heap.size = p := ⟨_, rfl⟩
    rw [hp] at hA ⊢
    have A1 := Lib.hid hA
    have B1 := Lib.hid (B0.out.trans (hB.mono B0.out.size))
    clear hA hB hp
    go_wp2_with fail
    go_loopw [6, 7] (fun ev i wr => CutRel1 W W.heap.size p l ev i wr) (fun _ i _ => l.length - (intOf i).toNat)
    case atStart => exact ⟨0, _, Nat.zero_le _, rfl, A1.out, B1.out, World.ownsRow_nil .., fun k e => by simp [Value.ownBlock] at e⟩
    case round =>
      obtain ⟨j, F, hj, rfl, hA, hB, hO, hap⟩ := hrel
      obtain ⟨ae, ce, rfl⟩ := own_form hO
      have hml := manyL_len (l.take j) (fun n hn => HS.out.lt n (List.mem_of_mem_take hn))
      rw [List.length_take] at hml
      by_cases hlt : j < l.length
      · obtain ⟨b, off, rfl, k1, hx⟩ := num_cell HS.out hB hlt
        have hl1 := (leb_len hx).2
        have S1 := Lib.hid (manyL_take hlt)
        have HA := Lib.hid hA
        have HO := Lib.hid hO
        have HP := Lib.hid hap
        have HB := Lib.hid hB
        have hN := hA.size.1
        clear hA hB hO hap
        generalize hxe : l[j] = x at *
        clear hxe
        go_wp2_with fail
        refine (wnum_any wr W.heap.size p F _ x HA.out hx (by omega)).mono ?_
        rintro e w2 ⟨rfl, F2, hA2, hK2, hF2⟩
        have HA2 := Lib.hid hA2
        have HK2 := Lib.hid hK2
        have HF2 := Lib.hid hF2
        have hs2 := hK2.size
        have O2 := Lib.hid (own_keep HO.out hK2 HP.out)
        clear hA2 hK2 hF2
        have hml2 : (manyL (l.take j) ++ lebL x).length ≤ 1000 := by rw [List.length_append]; omega
        obtain ⟨L, hL⟩ : ∃ L, L = (manyL (l.take j) ++ lebL x).length := ⟨_, rfl⟩
        rw [← hL] at hml2
        have HL := Lib.hid hL
        clear hL
        go_wp2_with fail
        refine (wdone_any w2 W.heap.size p F2 _ HA2.out (by rw [← HL.out]; omega)).mono ?_
        rintro e w3 ⟨a3, cap3, rfl, _, hb3, _⟩
        rw [← HL.out]
        have HB3 := Lib.hid hb3
        have hs3 := hb3.size
        have O3 := Lib.hid (World.ownsRow.alloc (own_keep O2.out (Keep.ofBelow (F := fun _ => False) hb3) (fun _ _ f => f.elim)) (.cells #[lenV L] 3))
        have helen := endsL_len l j
        clear hb3
        go_wp2_with (at_builtin; refine wpList_append_at rfl (.tmp 31) (.tmp 35) 56 rfl W.heap.size 3 i0 (.int .i64 0) 1 8 Try.underlying56 hi0 hz0 hz1 hz2 rfl (by decide) _ _ _ rfl O3.out (some ⟨w3.heap.size, 0, none⟩) 1 1 [lenV L] rfl rfl (fun e => by cases e) (fun ad e => by cases e; exact World.news_of_block (heap_alloc_new _ _)) (by simp [lenV, Value.oneCell']) (by unfold maxLen; omega) (by omega) (by simp; omega) ?_
                     intro v2 w4 hown4 hgr4 hat4
                     have R := Lib.hid (cut_next S1.out hlt HA.out HB.out HO.out HP.out HA2.out HK2.out HF2.out HB3.out (HL.out ▸ hown4) hgr4 hat4)
                     clear hown4 hgr4 hat4)
        go_roundw
        case rel => exact R.out
        case measure => simp only [intOf]; omega
      · obtain rfl : j = l.length := by omega
        rw [List.take_length] at hA
        have HA := Lib.hid hA
        have HB := Lib.hid hB
        have HO := Lib.hid hO
        have hml' : (manyL l).length ≤ 200 := by rw [List.take_length] at hml; omega
        obtain ⟨L, hL⟩ : ∃ L, L = (manyL l).length := ⟨_, rfl⟩
        rw [← hL] at hml'
        have HL := Lib.hid hL
        clear hA hB hO hap hL hml
        go_wp2_with fail
        refine (wdone_any wr W.heap.size p F _ HA.out (by rw [← HL.out]; omega)).mono ?_
        rintro e w3 ⟨a3, cap3, rfl, hs3, hb3, _⟩
        rw [← HL.out]
        have HS3 := Lib.hid hs3
        have B3 := Lib.hid (HB.out.trans (hb3.mono HA.out.size.1))
        have hN3 : W.heap.size ≤ w3.heap.size := Nat.le_trans HA.out.size.1 hb3.size
        have O3 := Lib.hid (own_keep HO.out (Keep.ofBelow (F := fun _ => False) hb3) (fun _ _ f => f.elim))
        have hf3 := hs3.fit
        rw [← HL.out] at hf3
        clear hs3 hb3 HA HO HB
        by_cases h0 : cut < 0
        · go_wp2_with fail
          go_ret
          exact ⟨rfl, B3.out⟩
        · obtain ⟨C, rfl⟩ : ∃ C : Nat, cut = (C : Int) := ⟨cut.toNat, by omega⟩
          by_cases hC : L ≤ C
          · go_wp2_with fail
            go_ret
            exact ⟨rfl, B3.out⟩
          · go_wp2_with fail
            have hlc : ((manyL l).take C).length = C := by rw [List.length_take, ← HL.out]; omega
            refine (on_rnew B3.out hN3 (HS3.out.take C) hlc (by omega)).mono ?_
            rintro e w4 ⟨q, S, rfl, hR, hb4, hq, _⟩
            have R4 := Lib.hid hR
            have O4 := Lib.hid (own_keep O3.out (Keep.ofBelow (F := fun _ => False) hb4) (fun _ _ f => f.elim))
            have Q4 := Lib.hid (show ∀ k, (Value.slice ae l.length ce).ownBlock = some k → k < q from fun k e => Nat.lt_of_lt_of_le (O3.out.lt k e).2 hq)
            have hCL := Lib.hid (show C < (manyL l).length by rw [← HL.out]; omega)
            clear hR hb4 hq HS3 O3 B3 hN3 hlc
            go_wp2_with fail
            go_loopw [10, 11] (fun bv i wr => CutRel2 W W.heap.size q S l C (.slice ae l.length ce) l.length bv i wr) (fun _ i _ => l.length - (intOf i).toNat)
            case atStart => exact ⟨0, Nat.zero_le _, rfl, by simp [cutB, manyL], by rw [cut_zero]; exact R4.out, O4.out, Q4.out⟩
            case round =>
              obtain ⟨j, hj, rfl, rfl, hR, hO, hQ⟩ := hrel
              by_cases hlt : j < l.length
              · have CS := Lib.hid (cut_step (cut := C) hlt HS.out.lt)
                have MO := Lib.hid (cutB_mono (cut := C) hlt)
                have NC := Lib.hid (fun (w : World) (hB : Below W.heap.size W w) => num_cell HS.out hB hlt)
                have HR := Lib.hid hR
                have HO := Lib.hid hO
                have HQ := Lib.hid hQ
                clear hR hO hQ
                have hT := rnum_top wr q S (cutR l C j) HR.out.1
                rw [CS.out] at hT
                have T := Lib.hid hT
                have EV := Lib.hid (show cutB l C (j + 1) = decide (C < (manyL (l.take (j + 1))).length) from rfl)
                clear hT CS
                obtain ⟨E, hE⟩ : ∃ E, E = (manyL (l.take (j + 1))).length := ⟨_, rfl⟩
                have GE := Lib.hid (show (endsL l l.length)[j]? = some E by rw [hE]; exact endsL_get hlt)
                rw [← hE] at EV
                clear hE
                generalize l[j] = x at *
                cases hb1 : cutB l C (j + 1)
                · have hb0 : cutB l C j = false := by
                    cases h : cutB l C j
                    · rfl
                    · have := MO.out h; rw [hb1] at this; cases this
                  have hCE : ¬ C < E := by have := EV.out; rw [hb1] at this; exact of_decide_eq_false this.symm
                  rw [hb0]
                  have T2 := T.out
                  rw [hb1] at T2
                  simp only [Bool.false_eq_true, if_false] at T2
                  have HB1 := Lib.hid hb1
                  clear hb0 hb1 MO EV T
                  go_wp2_with fail
                  refine T2.mono ?_
                  rintro e w5 hp
                  obtain ⟨rfl, hR5⟩ := HR.out.post hp
                  have O5 := own_keep HO.out hp.2.2 (fun k e f => by have := HQ.out k e; omega)
                  obtain ⟨g, cg, eg, _, _⟩ := O5.form (by omega)
                  cases eg
                  have k5 : w5.cell? ⟨g, j, none⟩ = some (.int .i64 (E : Nat)) := by
                    rw [O5.cellAt j (by omega), List.getElem?_map, GE.out]; rfl
                  obtain ⟨b, off, rfl, k6, _⟩ := NC.out w5 hR5.2.1
                  have R5 := Lib.hid hR5
                  have OO := Lib.hid O5
                  clear hp hR5 O5 T2 NC
                  go_wp2_with fail
                  go_roundw
                  case rel => exact ⟨j + 1, by omega, by go_num, by rw [HB1.out], R5.out, OO.out, HQ.out⟩
                  case measure => simp only [intOf]; omega
                · have hCE : C < E := by have := EV.out; rw [hb1] at this; exact of_decide_eq_true this.symm
                  have T2 := T.out
                  rw [hb1] at T2
                  simp only [if_true] at T2
                  have HB1 := Lib.hid hb1
                  clear hb1 MO EV T
                  cases hb0 : cutB l C j
                  all_goals
                    clear hb0
                    go_wp2_with fail
                    refine T2.mono ?_
                    rintro e w5 hp
                    obtain ⟨rfl, hR5⟩ := HR.out.post hp
                    have O5 := own_keep HO.out hp.2.2 (fun k e f => by have := HQ.out k e; omega)
                    obtain ⟨g, cg, eg, _, _⟩ := O5.form (by omega)
                    cases eg
                    have k5 : w5.cell? ⟨g, j, none⟩ = some (.int .i64 (E : Nat)) := by
                      rw [O5.cellAt j (by omega), List.getElem?_map, GE.out]; rfl
                    have R5 := Lib.hid hR5
                    have OO := Lib.hid O5
                    clear hp hR5 O5 T2 NC
                    go_wp2_with fail
                    go_roundw
                    case rel => exact ⟨j + 1, by omega, by go_num, by rw [HB1.out], R5.out, OO.out, HQ.out⟩
                    case measure => simp only [intOf]; omega
              · obtain rfl : j = l.length := by omega
                have HR := Lib.hid (show RdOn W W.heap.size q S none wr by rw [cut_end hCL.out] at hR; exact hR)
                clear hR hO hQ
                go_wp2_with (go_at_call 18; refine (on_rend (b := false) HR.out rfl).mono ?_; rintro e w' ⟨rfl, rfl⟩)
                go_ret
                exact ⟨rfl, HR.out.2.1⟩

end Go.Proofs.Ythakbcfjpnielaa
