/-
  TrimPurges.
-/
import Derived.Test.YtbmpeadoicjpnaaHawm
namespace Go.Proofs.Ytbmpeadoicjpnaa
open Go.RowKit Go.Sort

def cntT (l : List Le) : Nat := l.countP fun x => decide (x.t ≠ 0)
theorem cnt_le (l : List Le) : cntT l ≤ l.length := List.countP_le_length
theorem cnt_next {l : List Le} {k : Nat} (hk : k < l.length) : cntT (l.take (k + 1)) = cntT (l.take k) + if (l.getD k default).t = 0 then 0 else 1 := by
  have e : l.getD k default = l[k] := by rw [List.getD, List.getElem?_eq_getElem hk]; rfl
  unfold cntT
  rw [List.take_succ_eq_append_getElem hk, List.countP_append, e]
  by_cases h : l[k].t = 0 <;> simp [h]
theorem purged_last {q : List Le} (h : goodL q = true) (hp : purgeL q = q) {i : Nat} (hi : i < q.length) (ht : (q.getD i default).t = 0) : i + 1 = q.length ∨ (q.getD (i + 1) default).f ≠ (q.getD i default).f := by
  have e : q.getD i default = q[i] := by rw [List.getD, List.getElem?_eq_getElem hi]; rfl
  rw [e] at ht ⊢
  have hm : q[i] ∈ purgeL q := by rw [hp]; exact List.getElem_mem hi
  have hk := ((mem_purge h q[i]).1 hm).2
  unfold keepX at hk
  rw [decide_eq_false (show ¬ q[i].t ≠ 0 from fun h => h ht), Bool.false_or] at hk
  rcases (purge_at (goodL_iff.1 h).2 hi).1 hk with h1 | ⟨h1, h2⟩
  · exact Or.inl h1
  · refine Or.inr ?_
    have e2 : q.getD (i + 1) default = q[i + 1] := by rw [List.getD, List.getElem?_eq_getElem h1]; rfl
    rw [e2]; exact h2

set_option maxRecDepth 20000 in
set_option maxHeartbeats 8000000 in
theorem law_TrimPurges (l : List Le) (ao : Option Addr) (cap : Nat) (W : World) (h : LgAt (fun _ => True) W ao cap l.length l) :
    Calls Try.prog 8 #[.slice ao l.length cap] W fun e w' => e = .returned (.bool true) ∧ Below W.heap.size W w' := by
  obtain ⟨n, hn⟩ : ∃ n, n = l.length := ⟨_, rfl⟩
  rw [← hn] at h ⊢
  have HN := Lib.hid hn.symm
  have L := Lib.hid h
  have AW := Lib.hid (awake_any W)
  clear h hn
  go_enter Try.func8, Try.ntmps8
  go_wp2_with fail
  refine AW.out.mono ?_
  rintro e w1 ⟨rfl, hb⟩
  obtain ⟨U, hU⟩ : ∃ U, U = w1.alloc (.cells #[.slice ao n cap] 29) := ⟨_, rfl⟩
  have bU := Lib.hid (show Below W.heap.size W U from hb.trans (by rw [hU]; exact (boxb w1 _).mono hb.size))
  have CG := Lib.hid (show Cel 1 U w1.heap.size (gcE ao n cap) by rw [hU]; exact boxG w1 ao n cap _)
  have g0 : U.cell? ⟨w1.heap.size, 0, none⟩ = some (.slice ao n cap) := CG.out.c 0 (by decide)
  have HU := Lib.hid hU.symm
  clear hb hU AW
  by_cases h40 : n > 40
  · have d1 : decide ((n : Int) > 40) = true := decide_eq_true (by omega)
    have d1' : decide (40 < n) = true := decide_eq_true h40
    go_upto_region 4 with fail
    rw [HU.out]
    go_wp2_with fail
    go_ret
    exact ⟨rfl, bU.out⟩
  · have d1 : decide ((n : Int) > 40) = false := decide_eq_false (by omega)
    have d1' : decide (40 < n) = false := decide_eq_false h40
    go_upto_region 4 with fail
    rw [HU.out]
    clear HU
    generalize w1.heap.size = pg at *
    go_wp2_with fail
    refine (tgood_any (L.out.below bU.out) rfl).mono ?_
    rintro e w2 ⟨rfl, hb⟩
    have b2 := Lib.hid (bU.out.trans (hb.mono bU.out.size))
    have g2 : w2.cell? ⟨pg, 0, none⟩ = some (.slice ao n cap) := (CG.out.below hb).c 0 (by decide)
    clear hb g0 CG
    cases hg : goodL l
    · clear hg
      go_wp2_with fail
      go_ret
      exact ⟨rfl, b2.out⟩
    · obtain ⟨q, hq⟩ : ∃ q, q = purgeL l := ⟨_, rfl⟩
      have QG := Lib.hid (show goodL q = true by rw [hq]; exact purge_good hg)
      have QP := Lib.hid (show purgeL q = q by rw [hq]; exact purge_twice hg)
      have QC := Lib.hid (show cntT q = cntT l by rw [hq]; exact purge_count hg)
      have QL := Lib.hid (show q.length ≤ n by rw [hq, ← HN.out]; exact purge_sub.length_le)
      have PC := Lib.hid (purge_any (L.out.below b2.out) (by omega) rfl)
      rw [← hq] at PC
      clear hg hq
      go_wp2_with fail
      refine PC.out.mono ?_
      rintro e w3 ⟨a3, c3, rfl, hO, -, hb⟩
      obtain ⟨m, hm⟩ : ∃ m, m = q.length := ⟨_, rfl⟩
      rw [← hm] at hO ⊢
      have HM := Lib.hid hm.symm
      have hmn : m ≤ 40 := by have := QL.out; omega
      obtain ⟨V, hV⟩ : ∃ V, V = w3.alloc (.cells #[.slice a3 m c3] 29) := ⟨_, rfl⟩
      have bV := Lib.hid (show Below W.heap.size W V from (b2.out.trans (hb.mono b2.out.size)).trans (by rw [hV]; exact (boxb w3 _).mono (b2.out.trans (hb.mono b2.out.size)).size))
      have CP := Lib.hid (show Cel 1 V w3.heap.size (gcE a3 m c3) by rw [hV]; exact boxG w3 a3 m c3 _)
      have LQ := Lib.hid ((hO.at hm.symm).below (show Below w3.heap.size w3 V by rw [hV]; exact boxb w3 _))
      have HV := Lib.hid hV.symm
      clear hb hV PC hO hm g2 b2
      go_upto_region 7 with fail
      rw [HV.out]
      clear HV
      generalize w3.heap.size = pp at *
      have p0 : V.cell? ⟨pp, 0, none⟩ = some (.slice a3 m c3) := CP.out.c 0 (by decide)
      go_wp2_with fail
      go_loopw [5, 6] (fun s5 s6 wr => ∃ i : Nat, i ≤ m ∧ s6 = .int .i64 (i : Nat) ∧ s5 = .int .i64 ((cntT (q.take i) : Nat) : Int) ∧ Hid (Below V.heap.size V wr)) (fun _ s6 _ => m - (intOf s6).toNat)
      case atStart => exact ⟨0, Nat.zero_le _, rfl, rfl, Lib.hid (Below.refl _ _)⟩
      case round =>
        clear p0
        obtain ⟨i, hi, rfl, rfl, B⟩ := hrel
        have p1 : wr.cell? ⟨pp, 0, none⟩ = some (.slice a3 m c3) := (CP.out.below B.out).c 0 (by decide)
        by_cases hlt : i < m
        · have hil : i < q.length := by rw [HM.out]; exact hlt
          have CN := Lib.hid (cnt_next hil)
          have PL := Lib.hid (purged_last QG.out QP.out hil)
          have hcl : cntT (q.take i) ≤ i := by have := cnt_le (q.take i); rw [List.length_take] at this; omega
          obtain ⟨b, off, rfl, -, -, x0, x1, x2⟩ := (LQ.out.below B.out).cell hlt
          have p2 : ∀ p : NewBy wr, p.now.cell? ⟨pp, 0, none⟩ = some (.slice (some ⟨b, off, none⟩) m c3) := new_cell p1
          have y0 : ∀ p : NewBy wr, p.now.cell? ⟨b, off + i * 3, none⟩ = some (.int .i64 (q.getD i default).f) := new_cell x0
          have y2 : ∀ p : NewBy wr, p.now.cell? ⟨b, off + i * 3 + 2, none⟩ = some (.int .u64 ((q.getD i default).t : Int)) := new_cell x2
          have i0 : (0 : Int) ≤ (i : Int) := by omega
          have i1 : (i : Int) < (m : Int) := by omega
          have wi : IntKind.i64.wrap ((i : Int) + 1) = (i : Int) + 1 := by rw [IntKind.wrap_i64]; omega
          have wc : IntKind.i64.wrap ((cntT (q.take i) : Int) + 1) = (cntT (q.take i) : Int) + 1 := by rw [IntKind.wrap_i64]; omega
          by_cases ht : (q.getD i default).t = 0
          · have dt : (((q.getD i default).t : Int) == 0) = true := by rw [ht]; rfl
            have dt2 : (((q.getD i default).t : Int) != 0) = false := by rw [ht]; rfl
            have CE := Lib.hid (show cntT (q.take (i + 1)) = cntT (q.take i) by rw [CN.out, if_pos ht, Nat.add_zero])
            by_cases hl : i + 1 < m
            · have nf : ¬ (q.getD (i + 1) default).f = (q.getD i default).f := by
                rcases PL.out ht with h1 | h1
                · rw [HM.out] at h1; omega
                · exact h1
              obtain ⟨b', off', eb, -, -, z0, z1, z2⟩ := (LQ.out.below B.out).cell hl
              cases eb
              have v0 : ∀ p : NewBy wr, p.now.cell? ⟨b, off + (i + 1) * 3, none⟩ = some (.int .i64 (q.getD (i + 1) default).f) := new_cell z0
              have df : ((q.getD (i + 1) default).f == (q.getD i default).f) = false := by simpa using nf
              generalize (q.getD (i + 1) default).f = yf at *
              generalize (q.getD i default).f = xf at *
              generalize (q.getD i default).t = xt at *
              generalize cntT (q.take i) = c at *
              have dl : decide ((i : Int) + 1 < (m : Int)) = true := decide_eq_true (by omega)
              have dl' : decide (i + 1 < m) = true := decide_eq_true hl
              obtain ⟨j, hj⟩ : ∃ j, j = i + 1 := ⟨_, rfl⟩
              have ej : (i : Int) + 1 = (j : Int) := by omega
              rw [← hj] at v0 dl'
              have dlj : decide ((j : Int) < (m : Int)) = true := decide_eq_true (by omega)
              have wj : IntKind.i64.wrap (j : Int) = (j : Int) := by rw [IntKind.wrap_i64]; omega
              have j0 : (0 : Int) ≤ (j : Int) := by omega
              have j1 : (j : Int) < (m : Int) := by omega
              have HJ := Lib.hid hj
              clear ht nf PL CN x0 x1 x2 z0 z1 z2 hj hil dl wi
              go_upto_region 11 with fail
              refine wp_region_new (by kernel_rfl) (by kernel_rfl) ?_
              repeat
                with_reducible refine wpQuiet_step (fun K hK => ?_)
                go_simp
                first
                  | (with_reducible refine hK _ ?_; clear hK K)
                  | (with_reducible refine if_no (by decide) ?_; with_reducible refine hK _ ?_; clear hK K)
                  | (apply Exists.intro; refine ⟨fun _ => ?_, hK _ ?_⟩; (fail); clear hK K)
              with_reducible refine wpQuiet_nil ?_
              rintro _ ⟨p, rfl⟩
              have B3 := Lib.hid (B.out.trans (p.b.mono B.out.size))
              go_wp2_with fail
              go_roundw
              case rel => exact ⟨j, by omega, by go_num, by rw [HJ.out, CE.out], B3⟩
              case measure => simp only [intOf]; omega
            · have hl2 : i + 1 = m := by omega
              have dl : decide ((i : Int) + 1 < (m : Int)) = false := decide_eq_false (by omega)
              have dl' : decide (i + 1 < m) = false := decide_eq_false hl
              generalize (q.getD i default).f = xf at *
              generalize (q.getD i default).t = xt at *
              generalize cntT (q.take i) = c at *
              have H2 := Lib.hid hl2
              clear ht PL CN x0 x1 x2 hil hl2
              go_upto_region 11 with fail
              refine wp_region_new (by kernel_rfl) (by kernel_rfl) ?_
              repeat
                with_reducible refine wpQuiet_step (fun K hK => ?_)
                go_simp
                first
                  | (with_reducible refine hK _ ?_; clear hK K)
                  | (with_reducible refine if_no (by decide) ?_; with_reducible refine hK _ ?_; clear hK K)
                  | (apply Exists.intro; refine ⟨fun _ => ?_, hK _ ?_⟩; (fail); clear hK K)
              with_reducible refine wpQuiet_nil ?_
              rintro _ ⟨p, rfl⟩
              have B3 := Lib.hid (B.out.trans (p.b.mono B.out.size))
              go_wp2_with fail
              go_roundw
              case rel => exact ⟨i + 1, by omega, by go_num, by rw [CE.out], B3⟩
              case measure => simp only [intOf]; omega
          · have dt : (((q.getD i default).t : Int) == 0) = false := by simpa using ht
            have dt2 : (((q.getD i default).t : Int) != 0) = true := by simpa using ht
            have CE := Lib.hid (show cntT (q.take (i + 1)) = cntT (q.take i) + 1 by rw [CN.out, if_neg ht])
            generalize (q.getD i default).f = xf at *
            generalize (q.getD i default).t = xt at *
            generalize cntT (q.take i) = c at *
            clear ht PL CN x0 x1 x2 hil
            go_upto_region 11 with fail
            refine wp_region_new (by kernel_rfl) (by kernel_rfl) ?_
            repeat
              with_reducible refine wpQuiet_step (fun K hK => ?_)
              go_simp
              first
                | (with_reducible refine hK _ ?_; clear hK K)
                | (with_reducible refine if_no (by decide) ?_; with_reducible refine hK _ ?_; clear hK K)
                | (apply Exists.intro; refine ⟨fun _ => ?_, hK _ ?_⟩; (fail); clear hK K)
            with_reducible refine wpQuiet_nil ?_
            rintro _ ⟨p, rfl⟩
            have B3 := Lib.hid (B.out.trans (p.b.mono B.out.size))
            go_wp2_with fail
            go_roundw
            case rel => exact ⟨i + 1, by omega, by go_num, by rw [CE.out]; go_num, B3⟩
            case measure => simp only [intOf]; omega
        · obtain rfl : i = m := by omega
          have dk : decide ((i : Int) < (i : Int)) = false := decide_eq_false (by omega)
          have HQ := Lib.hid (show cntT (q.take i) = cntT q by rw [List.take_of_length_le (by rw [HM.out]; exact Nat.le_refl _)])
          rw [HQ.out, QC.out]
          obtain ⟨cl, hcl⟩ : ∃ cl, cl = cntT l := ⟨_, rfl⟩
          rw [← hcl]
          have HC := Lib.hid hcl
          have hcn : cl ≤ n := by rw [hcl, ← HN.out]; exact cnt_le l
          clear hcl
          have B0 := Lib.hid (bV.out.trans (B.out.mono bV.out.size))
          have GC := Lib.hid (tgood_any ((LQ.out.below B.out)) QG.out)
          go_wp2_with fail
          go_loopw [5, 7] (fun s5 s7 wr2 => ∃ j : Nat, j ≤ n ∧ s7 = .int .i64 (j : Nat) ∧ s5 = .int .i64 ((cl : Int) - ((cntT (l.take j) : Nat) : Int)) ∧ wr2 = wr) (fun _ s7 _ => n - (intOf s7).toNat)
          case atStart => exact ⟨0, Nat.zero_le _, rfl, by rw [List.take_zero, show cntT [] = 0 from rfl]; simp, rfl⟩
          case round =>
            obtain ⟨j, hj, rfl, rfl, rfl⟩ := hrel
            by_cases hlt2 : j < n
            · have hjl : j < l.length := by rw [HN.out]; exact hlt2
              have CN := Lib.hid (cnt_next hjl)
              have hcj : cntT (l.take j) ≤ j := by have := cnt_le (l.take j); rw [List.length_take] at this; omega
              obtain ⟨b, off, rfl, -, -, x0, x1, x2⟩ := (L.out.below B0.out).cell hlt2
              have i0 : (0 : Int) ≤ (j : Int) := by omega
              have i1 : (j : Int) < (n : Int) := by omega
              have wj : IntKind.i64.wrap ((j : Int) + 1) = (j : Int) + 1 := by rw [IntKind.wrap_i64]; omega
              have wc : IntKind.i64.wrap ((cl : Int) - ((cntT (l.take j) : Nat) : Int) - 1) = (cl : Int) - ((cntT (l.take j) : Nat) : Int) - 1 := by rw [IntKind.wrap_i64]; omega
              by_cases ht : (l.getD j default).t = 0
              · have dt2 : (((l.getD j default).t : Int) != 0) = false := by rw [ht]; rfl
                have CE := Lib.hid (show cntT (l.take (j + 1)) = cntT (l.take j) by rw [CN.out, if_pos ht, Nat.add_zero])
                generalize (l.getD j default).t = xt at *
                generalize cntT (l.take j) = c at *
                clear ht CN x0 x1 hjl
                go_wp2_with fail
                go_roundw
                case rel => exact ⟨j + 1, by omega, by go_num, by rw [CE.out], trivial⟩
                case measure => simp only [intOf]; omega
              · have dt2 : (((l.getD j default).t : Int) != 0) = true := by simpa using ht
                have CE := Lib.hid (show cntT (l.take (j + 1)) = cntT (l.take j) + 1 by rw [CN.out, if_neg ht])
                generalize (l.getD j default).t = xt at *
                generalize cntT (l.take j) = c at *
                clear ht CN x0 x1 hjl
                go_wp2_with fail
                go_roundw
                case rel => exact ⟨j + 1, by omega, by go_num, by rw [CE.out]; congr 1; omega, trivial⟩
                case measure => simp only [intOf]; omega
            · obtain rfl : j = n := by omega
              have hz : (cl : Int) - ((cntT (l.take j) : Nat) : Int) = 0 := by
                rw [List.take_of_length_le (by rw [HN.out]; exact Nat.le_refl _), ← HC.out]; omega
              rw [hz]
              go_wp2_with (go_at_call 19; refine GC.out.mono ?_; rintro e w9 ⟨rfl, hb9⟩; have B9 := Lib.hid (B0.out.trans (hb9.mono B0.out.size)); clear hb9)
              go_ret
              exact ⟨rfl, B9.out⟩

end Go.Proofs.Ytbmpeadoicjpnaa
