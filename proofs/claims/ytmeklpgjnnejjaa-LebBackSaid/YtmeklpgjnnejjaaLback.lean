/-
  Numbers that are written are read again: the walk of the statement.
-/
import Derived.Test.YtmeklpgjnnejjaaLsays
import Derived.Deep.QuietTactic
import Derived.BigQuiet
namespace Go.Proofs.Ytmeklpgjnnejjaa
open Go.RowKit

theorem drewN_below {N : Nat} {w w' : World} (h : Below N w w') (q : Nat) : Below N w (w'.drewN q) := ⟨h.os, h.tape, h.output, h.size, h.block⟩
theorem SlAt.drewN {f : Nat → Value} {M : Nat} {w : World} {a : Option Addr} {cap : Nat} {xs : List Nat} (h : SlAt f M w a cap xs) (q : Nat) : SlAt f M (w.drewN q) a cap xs :=
  ⟨h.lt, h.fit, h.max, h.nil, fun i hi => h.cell i hi⟩

def ManyRel (W : World) (l : List Nat) (b i : Value) (wr : World) : Prop :=
  ∃ (k : Nat) (a : Option Addr) (c : Nat), k ≤ l.length ∧ i = .int .i64 (k : Nat) ∧ b = .slice a (manyL (l.take k)).length c ∧ SlAt bV 256 wr a c (manyL (l.take k)) ∧ Below W.heap.size W wr

theorem put_more {l : List Nat} {k : Nat} {a : Option Addr} {c : Nat} {W wr : World} (hk : k < l.length) (hl : ∀ x ∈ l, x < wordM) (hn : l.length ≤ 30) (hs : SlAt bV 256 wr a c (manyL (l.take k))) (hB : Below W.heap.size W wr) :
    Calls Try.prog 9 #[.slice a (manyL (l.take k)).length c, .int .u64 (l[k] : Nat)] wr fun e w' => ∃ v, e = .returned v ∧ ManyRel W l v (.int .i64 ((k + 1 : Nat) : Int)) w' := by
  have hlen := manyL_len (l.take k) (fun x hx => hl x (List.mem_of_mem_take hx))
  rw [List.length_take] at hlen
  refine (put_any (manyL (l.take k)) a c l[k] wr hs (hl _ (List.getElem_mem hk)) (by omega)).mono ?_
  rintro e w' ⟨a2, c2, rfl, h2, hb⟩
  rw [← manyL_take hk] at h2 ⊢
  exact ⟨_, rfl, k + 1, a2, c2, by omega, rfl, rfl, h2, hB.trans (hb.mono hB.size)⟩

theorem back_get {n : Nat} {r rest : List Nat} (hn : n < 18446744073709551616) : getN (manyL (n :: r) ++ rest) = (n, szN n) := by
  show getN ((lebL n ++ manyL r) ++ rest) = _
  rw [List.append_assoc]
  exact getN_lebL hn _

theorem back_first {ls rest : List Nat} (h0 : 0 < ls.length) (hl : ∀ x ∈ ls, x < wordM) : getN (manyL ls ++ rest) = (ls[0], szN ls[0]) := by
  cases ls with
  | nil => simp at h0
  | cons x r => exact back_get (hl x (by simp))

theorem size_same (n : Nat) (w : World) (hn : n < wordM) : Calls Try.prog 12 #[.int .u64 (n : Nat)] w fun e w' => e = .returned (.int .i64 (szN n : Nat)) ∧ w' = w :=
  (size_any n _ hn).mono fun _ _ ⟨a, b⟩ => ⟨a, b.symm⟩
theorem wrap_index (j : Nat) (h : j < 9223372036854775808) : IntKind.i64.wrap (j : Int) = (j : Int) := by
  rw [IntKind.wrap_i64]; omega

set_option maxRecDepth 20000 in
set_option maxHeartbeats 4000000 in
theorem law_LebBack (ls : List Nat) (al : Option Addr) (cl : Nat) (rest : List Nat) (ar : Option Addr) (cr : Nat) (W : World) (hl : SlAt qV wordM W al cl ls) (hr : SlAt bV 256 W ar cr rest) : Calls Try.prog 5 #[.slice al ls.length cl, .slice ar rest.length cr] W (LebOk W) := by
  obtain ⟨i0, hi0, hz0, hz1, hz2⟩ := info_parts Try.infoB
  have HL := Lib.hid hl
  have HR := Lib.hid hr
  clear hl hr
  go_enter Try.func5, Try.ntmps5
  go_wp2_with fail
  refine (awake_any W).mono ?_
  rintro e w0 ⟨rfl, hb0⟩
  have B0 := Lib.hid hb0
  have HL0 := Lib.hid (HL.out.below hb0)
  have HR0 := Lib.hid (HR.out.below hb0)
  clear hb0 HL HR
  by_cases h30 : 30 < ls.length
  · go_wp2_with fail
    go_ret
    exact ⟨rfl, B0.out⟩
  by_cases h50 : 50 < rest.length
  · go_wp2_with fail
    go_ret
    exact ⟨rfl, B0.out⟩
  go_wp2_with fail
  go_loopw [5, 6] (fun b i wr => ManyRel w0 ls b i wr) (fun _ i _ => ls.length - (intOf i).toNat)
  case atStart => exact ⟨0, none, 0, Nat.zero_le _, rfl, rfl, SlAt.none _ _ _, Below.refl _ _⟩
  case round =>
    obtain ⟨k, a, c, hk, rfl, rfl, hs, hB⟩ := hrel
    by_cases hlt : k < ls.length
    · have P := Lib.hid (put_more hlt HL0.out.lt (by omega) hs hB)
      obtain ⟨g, o, rfl, _, hcx⟩ := (HL0.out.below hB).cell k hlt
      have k1 : wr.cell? ⟨g, o + k, none⟩ = some (.int .u64 (ls[k] : Nat)) := hcx
      clear hcx hs hB
      generalize ls[k] = z at *
      go_wp2_with fail
      refine P.out.mono ?_
      rintro e w' ⟨v, rfl, hR⟩
      have R := Lib.hid hR
      clear hR P
      go_wp2_with fail
      go_roundw
      case rel => exact (show Value.int .i64 ((k : Int) + 1) = .int .i64 ((k + 1 : Nat) : Int) by simp) ▸ R.out
      case measure => simp [intOf]; omega
    · have e : ls.take k = ls := List.take_of_length_le (by omega)
      rw [e] at hs ⊢
      have hml := manyL_len ls HL0.out.lt
      have HM := Lib.hid hs
      have HL1 := Lib.hid (HL0.out.below hB)
      have HR1 := Lib.hid (HR0.out.below hB)
      have B1 := Lib.hid (B0.out.trans (hB.mono B0.out.size))
      clear hs hB HL0 HR0 e
      go_wp2_with fail
      refine (all_of HM.out rfl (by omega) (allN_many ls HL1.out.lt) rfl).mono ?_
      rintro e w3 ⟨am, cm, rfl, hs3, hb3⟩
      have M3 := Lib.hid hs3
      have HM3 := Lib.hid (HM.out.below hb3)
      have HL3 := Lib.hid (HL1.out.below hb3)
      have HR3 := Lib.hid (HR1.out.below hb3)
      have B3 := Lib.hid (B1.out.trans (hb3.mono B1.out.size))
      clear hs3 hb3 HM HL1 HR1 B1
      go_wp2_with fail
      go_loopw [9] (fun i wr => ∃ k q : Nat, k ≤ ls.length ∧ i = .int .i64 (k : Nat) ∧ wr = w3.drewN q) (fun i _ => ls.length - (intOf i).toNat)
      case atStart => exact ⟨0, 0, Nat.zero_le _, rfl, rfl⟩
      case round =>
        obtain ⟨k, q, hk, rfl, rfl⟩ := hrel
        by_cases hlt : k < ls.length
        · obtain ⟨gm, om, rfl, _, hcm⟩ := M3.out.cell k hlt
          obtain ⟨gl, ol, rfl, _, hcl⟩ := HL3.out.cell k hlt
          have hQ := Lib.hid (fun n => (show ∃ q', (w3.drewN q).drewN n = w3.drewN q' from ⟨q + n, by rw [World.drewN_drewN]⟩))
          have km : (w3.drewN q).cell? ⟨gm, om + k, none⟩ = some (.int .u64 (ls[k] : Nat)) := hcm
          have kl : (w3.drewN q).cell? ⟨gl, ol + k, none⟩ = some (.int .u64 (ls[k] : Nat)) := hcl
          have hz := HL3.out.lt ls[k] (List.getElem_mem hlt)
          clear hcm hcl
          cases k with
          | zero =>
            rw [Nat.add_zero] at km kl
            have ib : (0 : Int) < (ls.length : Int) := by omega
            generalize ls[0] = z at *
            generalize w3.drewN q = ww at *
            go_wp2_with fail
            go_quiet (fail)
            go_wp2_with fail
            go_roundw
            case rel => exact (hQ.out _).elim fun q' e => ⟨1, q', by omega, by go_num, e⟩
            case measure => simp [intOf]; omega
          | succ j =>
            have hj : j < ls.length := by omega
            have ib : (j : Int) + 1 < (ls.length : Int) := by omega
            have jb : (j : Int) < (ls.length : Int) := by omega
            have i0 : (0 : Int) ≤ (j : Int) + 1 := by omega
            have j0 : (0 : Int) ≤ (j : Int) := by omega
            have p0 : (0 : Int) < (j : Int) + 1 := by omega
            have jw : (j : Int) + 1 - 1 = (j : Int) := by omega
            have jy : IntKind.i64.wrap (j : Int) = (j : Int) := wrap_index j (by omega)
            have jx : IntKind.i64.wrap ((j : Int) + 1 - 1) = (j : Int) := by rw [jw]; exact jy
            obtain ⟨gl', ol', e, _, hcl⟩ := HL3.out.cell j hj
            cases e
            have kj : (w3.drewN q).cell? ⟨gl, ol + j, none⟩ = some (.int .u64 (ls[j] : Nat)) := hcl
            have hy := HL3.out.lt ls[j] (List.getElem_mem hj)
            have HS := Lib.hid (szN_mono ls[j] ls[j + 1])
            clear hcl
            generalize ls[j] = y at *
            generalize ls[j + 1] = z at *
            generalize w3.drewN q = ww at *
            cases d : decide ((y : Int) ≤ (z : Int))
            · have dN : decide (y ≤ z) = false := by rw [← d]; simp
              go_wp2_with fail
              go_quiet (fail)
              go_wp2_with fail
              go_roundw
              case rel => exact (hQ.out _).elim fun q' e => ⟨j + 1 + 1, q', by omega, by go_num, e⟩
              case measure => simp [intOf]; omega
            · have d' : (y : Int) ≤ (z : Int) := of_decide_eq_true d
              have d2 : decide (((szN z : Nat) : Int) < ((szN y : Nat) : Int)) = false := by
                have := HS.out (by omega)
                simp; omega
              have d3 : ¬ szN z < szN y := by have := HS.out (by omega); omega
              go_wp2_with fail
              go_quiet (first | (go_at_call 12; refine Calls.quiet_of_same (size_same _ _ ?_); assumption))
              go_wp2_with fail
              go_roundw
              case rel => exact (hQ.out _).elim fun q' e => ⟨j + 1 + 1, q', by omega, by go_num, e⟩
              case measure => simp [intOf]; omega
        · have HM4 := Lib.hid (HM3.out.drewN q)
          have HL4 := Lib.hid (HL3.out.drewN q)
          have HR4 := Lib.hid (HR3.out.drewN q)
          have B4 := Lib.hid (drewN_below B3.out q)
          clear M3 HM3 HL3 HR3 B3
          generalize w3.drewN q = ww at *
          by_cases h0 : 0 < ls.length
          · have hown0 := World.ownsRow_lit (base := ww.heap.size) (e := 5) (size := 1) ww #[] 0 (Nat.le_refl _) (by unfold maxLen; omega) rfl
            have O := Lib.hid hown0
            have HG := Lib.hid (back_first (rest := rest) h0 HL4.out.lt)
            have hx := HL4.out.lt ls[0] (List.getElem_mem h0)
            obtain ⟨gl, ol, rfl, hlt2, hcl⟩ := HL4.out.cell 0 h0
            have KL := Lib.hid (show ww.cell? ⟨gl, ol, none⟩ = some (.int .u64 (ls[0] : Nat)) from hcl)
            generalize ls[0] = x at *
            clear hown0 hcl
            go_wp2_with (first
              | (at_builtin; refine wpList_append_opt rfl (.tmp 97) (.tmp 98) 23 rfl ww.heap.size 5 i0 (.int .u8 0) 1 1 Try.underlying23 hi0 hz0 hz1 hz2 rfl (by decide) _ _ _ rfl O.out _ _ _ ((manyL ls).map bV) rfl (by simp) HM4.out.empty (HM4.out.below ((Below.refl _ _).alloc (Nat.le_refl _) _)).news (ones_b _) (by unfold maxLen; omega) (by omega) (by simp) ?_
                 intro v2 w2 hown2 hgr2
                 have B5 := Lib.hid (show Below ww.heap.size ww w2 from ((Below.refl _ _).alloc (Nat.le_refl _) _).grown hgr2 (by simp) (fun k h => (O.out.lt k h).1))
                 try rw [Nat.zero_add, List.nil_append] at hown2
                 have O2 := Lib.hid hown2
                 clear hown2 hgr2)
              | (at_builtin; refine wpList_append_opt rfl (.tmp 99) (.tmp 100) 23 rfl ww.heap.size 5 i0 (.int .u8 0) 1 1 Try.underlying23 hi0 hz0 hz1 hz2 rfl (by decide) _ _ _ rfl O2.out _ _ _ (rest.map bV) rfl (by simp) HR4.out.empty (HR4.out.below B5.out).news (ones_b _) (by unfold maxLen; omega) (by omega) B5.out.size ?_
                 intro v3 w4 hown3 hgr3
                 have B6 := Lib.hid (show Below ww.heap.size ww w4 from B5.out.grown hgr3 B5.out.size (fun k h => (O2.out.lt k h).1))
                 rw [← List.map_append] at hown3
                 have O3 := Lib.hid hown3
                 clear hown3 hgr3))
            obtain ⟨hloop, a4, c4, rfl, hs4⟩ := own_sl O3.out (show ∀ x ∈ manyL ls ++ rest, x < 256 from fun x hx => (List.mem_append.1 hx).elim (manyL_lt ls x) (HR4.out.lt x))
            have HS4 := Lib.hid hs4
            clear hs4 hloop
            have kx := (B6.out.cell (p := ⟨gl, ol, none⟩) hlt2).trans KL.out
            go_wp2_with fail
            refine (get_of HS4.out (by simp) HG.out).mono ?_
            rintro e w' ⟨rfl, rfl⟩
            go_wp2_with (go_at_call 12; refine (size_any x _ hx).mono ?_; rintro e w' ⟨rfl, rfl⟩)
            go_ret
            exact ⟨rfl, B4.out.trans (B6.out.mono B4.out.size)⟩
          · go_wp2_with fail
            go_ret
            exact ⟨rfl, B4.out⟩

end Go.Proofs.Ytmeklpgjnnejjaa
