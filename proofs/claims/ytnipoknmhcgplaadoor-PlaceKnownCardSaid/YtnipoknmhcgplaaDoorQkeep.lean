/-
  Who keeps what; who may send to whom; a small one.
-/
import Derived.Test.YtnipoknmhcgplaaDoorQgd
namespace Go.Proofs.YtnipoknmhcgplaaDoor
open Go.RowKit

theorem keepC_lt {c : Cfg} {v : Int} (hk : CfgOk c) : keepC c v < 18446744073709551616 := by
  unfold keepC
  split
  · rw [List.getD_eq_getElem?_getD]
    cases h : c.vs[v.toNat]? with
    | none => decide
    | some x => exact hk.vs x (List.mem_of_getElem? h)
  · decide
theorem btw_true {l n m : Int} (h : btw l n m = true) : l ≤ n ∧ n ≤ m := by unfold btw at h; simpa using h
theorem good_n {c : Cfg} (h : goodC c = true) : 1 ≤ c.n ∧ c.n ≤ 16 := by
  unfold goodC at h
  simp only [Bool.and_eq_true] at h
  exact btw_true h.1.1.1.1.1.1.1
theorem good_len {c : Cfg} (h : goodC c = true) : c.vs.length ≤ 16 := by
  unfold goodC at h
  simp only [Bool.and_eq_true, decide_eq_true_eq] at h
  exact h.1.1.1.1.1.1.2.1
theorem good_vs {c : Cfg} (h : goodC c = true) : ∀ s ∈ c.vs, someN s c.n = true := by
  unfold goodC at h
  simp only [Bool.and_eq_true, decide_eq_true_eq, List.all_eq_true] at h
  exact h.1.1.1.1.1.1.2.2

set_option maxHeartbeats 4000000 in
theorem keepers_any (c : Cfg) (ao : Option Addr) (cap : Nat) (v : Int) (W : World) (hs : SlV W ao cap (c.vs.map uV)) (hk : CfgOk c) (hv : IntOk v) :
    Calls Tryd.prog 23 #[.agg (cfgA c ao cap), .int .i64 v] W fun e w' => e = .returned (.int .u64 (keepC c v : Nat)) ∧ Below W.heap.size W w' := by
  have hfit := hs.fit
  have hmax := hs.max
  unfold maxLen at hmax
  rw [List.length_map] at hfit
  have hw : IntKind.i64.wrap ((c.vs.length : Int) - 1) = (c.vs.length : Int) - 1 := by
    simp [IntKind.wrap, IntKind.bits, IntKind.signed]
    omega
  have B1 := Lib.hid (below_alloc (Below.refl _ W) (.cells (cfgA c ao cap) 26))
  have X1 := Lib.hid (boxed_new W c ao cap 26)
  have S1 := Lib.hid (hs.below B1.out)
  have O := Lib.hid hk
  clear hs hk
  go_enter Tryd.func23, Tryd.ntmps23
  obtain ⟨r1, e1⟩ : ∃ r, goodC c = r := ⟨_, rfl⟩
  obtain ⟨r2, e2⟩ : ∃ r, btw 0 v (c.vs.length - 1) = r := ⟨_, rfl⟩
  have R1 := Lib.hid e1
  have R2 := Lib.hid e2
  clear e1 e2
  go_wp2_with fail
  refine (good_is S1.out O.out R1.out).mono ?_
  rintro e w2 ⟨rfl, hb⟩
  have B2 := Lib.hid (B1.out.trans (hb.mono B1.out.size))
  have X2 := Lib.hid (X1.out.below hb)
  have S2 := Lib.hid (S1.out.below hb)
  clear hb X1 B1 S1
  obtain ⟨k0, k1, k2, k3, k4, k5, k6, k7⟩ := X2.out
  cases r1
  · go_wp2_with fail
    go_ret
    exact ⟨by rw [show keepC c v = 0 by unfold keepC; simp [R1.out]]; rfl, B2.out⟩
  go_wp2_with fail
  refine (btw_is R2.out).mono ?_
  rintro e w' ⟨rfl, rfl⟩
  cases r2
  · go_wp2_with fail
    go_ret
    exact ⟨by rw [show keepC c v = 0 by unfold keepC; simp [R2.out]]; rfl, B2.out⟩
  have hr := btw_true R2.out
  obtain ⟨k, rfl⟩ : ∃ k : Nat, v = (k : Int) := ⟨v.toNat, by omega⟩
  have hlt : k < c.vs.length := by omega
  obtain ⟨b, off, rfl, _, hc⟩ := S2.out.at k hlt
  have K := Lib.hid (show keepC c (k : Int) = c.vs[k] by unfold keepC; simp [R1.out, R2.out, hlt])
  have kk : w2.cell? ⟨b, off + k, none⟩ = some (.int .u64 (c.vs[k] : Nat)) := hc
  clear hc hr
  generalize c.vs[k] = x at *
  go_wp2_with fail
  go_ret
  exact ⟨by rw [K.out]; rfl, B2.out⟩

theorem keepers_is {c : Cfg} {ao : Option Addr} {cap : Nat} {v : Int} {s : Nat} {W : World} (hs : SlV W ao cap (c.vs.map uV)) (hk : CfgOk c) (hv : IntOk v) (h : keepC c v = s) :
    Calls Tryd.prog 23 #[.agg (cfgA c ao cap), .int .i64 v] W fun e w' => e = .returned (.int .u64 (s : Nat)) ∧ Below W.heap.size W w' := by
  subst h; exact keepers_any c ao cap v W hs hk hv

set_option maxHeartbeats 4000000 in
theorem keeps_any (c : Cfg) (ao : Option Addr) (cap : Nat) (p v : Int) (W : World) (hs : SlV W ao cap (c.vs.map uV)) (hk : CfgOk c) (hp : IntOk p) (hv : IntOk v) :
    Calls Tryd.prog 10 #[.agg (cfgA c ao cap), .int .i64 p, .int .i64 v] W fun e w' => e = .returned (.bool (hasN (keepC c v) p)) ∧ Below W.heap.size W w' := by
  have B1 := Lib.hid (below_alloc (Below.refl _ W) (.cells (cfgA c ao cap) 26))
  have S1 := Lib.hid (hs.below B1.out)
  have P := Lib.hid hp
  have V := Lib.hid hv
  have L := Lib.hid (keepC_lt (v := v) hk)
  have O := Lib.hid hk
  clear hs hk hp hv
  go_enter Tryd.func10, Tryd.ntmps10
  go_wp2_with fail
  refine (keepers_any c ao cap v _ S1.out O.out V.out).mono ?_
  rintro e w2 ⟨rfl, hb⟩
  have B2 := Lib.hid (B1.out.trans (hb.mono B1.out.size))
  clear hb B1 S1
  go_wp2_with fail
  refine (has_any (keepC c v) p _ L.out P.out).mono ?_
  rintro e w3 ⟨rfl, hb⟩
  have B3 := Lib.hid (B2.out.trans (hb.mono B2.out.size))
  clear hb B2
  go_wp2_with fail
  go_ret
  exact ⟨rfl, B3.out⟩

theorem keeps_is {c : Cfg} {ao : Option Addr} {cap : Nat} {p v : Int} {r : Bool} {W : World} (hs : SlV W ao cap (c.vs.map uV)) (hk : CfgOk c) (hp : IntOk p) (hv : IntOk v) (h : hasN (keepC c v) p = r) :
    Calls Tryd.prog 10 #[.agg (cfgA c ao cap), .int .i64 p, .int .i64 v] W fun e w' => e = .returned (.bool r) ∧ Below W.heap.size W w' := by
  subst h; exact keeps_any c ao cap p v W hs hk hp hv

set_option maxHeartbeats 4000000 in
theorem may_any (c : Cfg) (ao : Option Addr) (cap : Nat) (p : Int) (to : Nat) (W : World) (hs : SlV W ao cap (c.vs.map uV)) (hk : CfgOk c) (hp : IntOk p) (ht : to < 18446744073709551616) :
    Calls Tryd.prog 11 #[.agg (cfgA c ao cap), .int .i64 p, .int .u64 (to : Nat)] W fun e w' => e = .returned (.bool (mayC c p to)) ∧ Below W.heap.size W w' := by
  have B1 := Lib.hid (below_alloc (Below.refl _ W) (.cells (cfgA c ao cap) 26))
  have X1 := Lib.hid (boxed_new W c ao cap 26)
  have S1 := Lib.hid (hs.below B1.out)
  have P := Lib.hid hp
  have T := Lib.hid ht
  have O := Lib.hid hk
  clear hs hk hp ht
  go_enter Tryd.func11, Tryd.ntmps11
  obtain ⟨r1, e1⟩ : ∃ r, goodC c = r := ⟨_, rfl⟩
  obtain ⟨r2, e2⟩ : ∃ r, btw 0 p (c.n - 1) = r := ⟨_, rfl⟩
  obtain ⟨r3, e3⟩ : ∃ r, someN to c.n = r := ⟨_, rfl⟩
  obtain ⟨r4, e4⟩ : ∃ r, hasN to p = r := ⟨_, rfl⟩
  have R1 := Lib.hid e1
  have R2 := Lib.hid e2
  have R3 := Lib.hid e3
  have R4 := Lib.hid e4
  clear e1 e2 e3 e4
  go_wp2_with fail
  refine (good_is S1.out O.out R1.out).mono ?_
  rintro e w2 ⟨rfl, hb⟩
  have B2 := Lib.hid (B1.out.trans (hb.mono B1.out.size))
  have X2 := Lib.hid (X1.out.below hb)
  have S2 := Lib.hid (S1.out.below hb)
  clear hb X1 B1 S1
  obtain ⟨k0, k1, k2, k3, k4, k5, k6, k7⟩ := X2.out
  cases r1
  · go_wp2_with fail
    go_ret
    exact ⟨by rw [show mayC c p to = false by unfold mayC; simp [R1.out]]; rfl, B2.out⟩
  have hn := good_n R1.out
  have hw : IntKind.i64.wrap (c.n - 1) = c.n - 1 := by
    simp [IntKind.wrap, IntKind.bits, IntKind.signed]
    omega
  clear hn
  go_wp2_with fail
  refine (btw_is R2.out).mono ?_
  rintro e w' ⟨rfl, rfl⟩
  cases r2
  · go_wp2_with fail
    go_ret
    exact ⟨by rw [show mayC c p to = false by unfold mayC; simp [R2.out]]; rfl, B2.out⟩
  go_wp2_with fail
  refine (some_is T.out O.out.n R3.out).mono ?_
  rintro e w' ⟨rfl, rfl⟩
  cases r3
  · go_wp2_with fail
    go_ret
    exact ⟨by rw [show mayC c p to = false by unfold mayC; simp [R3.out]]; rfl, B2.out⟩
  go_wp2_with fail
  refine (has_any to p _ T.out P.out).mono ?_
  rintro e w3 ⟨rfl, hb⟩
  have B3 := Lib.hid (B2.out.trans (hb.mono B2.out.size))
  clear hb B2
  rw [R4.out]
  cases r4
  · go_wp2_with fail
    go_ret
    exact ⟨by rw [show mayC c p to = true by unfold mayC; simp [R1.out, R2.out, R3.out, R4.out]]; rfl, B3.out⟩
  · go_wp2_with fail
    go_ret
    exact ⟨by rw [show mayC c p to = false by unfold mayC; simp [R4.out]]; rfl, B3.out⟩

theorem may_is {c : Cfg} {ao : Option Addr} {cap : Nat} {p : Int} {to : Nat} {r : Bool} {W : World} (hs : SlV W ao cap (c.vs.map uV)) (hk : CfgOk c) (hp : IntOk p) (ht : to < 18446744073709551616) (h : mayC c p to = r) :
    Calls Tryd.prog 11 #[.agg (cfgA c ao cap), .int .i64 p, .int .u64 (to : Nat)] W fun e w' => e = .returned (.bool r) ∧ Below W.heap.size W w' := by
  subst h; exact may_any c ao cap p to W hs hk hp ht

/-- A small one. -/
def plainC (n e : Int) : Cfg := ⟨n, [if n ≤ 64 then allN n else 0], 2, 3, 2, 8, 64, e⟩
theorem plain_ok {n e : Int} (hn : IntOk n) (he : IntOk e) : CfgOk (plainC n e) := by
  refine ⟨hn, ?_, ?_, ?_, ?_, ?_, ?_, he⟩
  · intro s hs
    obtain rfl : s = _ := List.mem_singleton.1 hs
    split
    · exact allN_lt n
    · decide
  all_goals (first | exact (show IntOk 2 by unfold IntOk; decide) | exact (show IntOk 3 by unfold IntOk; decide) | exact (show IntOk 8 by unfold IntOk; decide) | exact (show IntOk 64 by unfold IntOk; decide))

def PlainPost (W : World) (c : Cfg) (e : Ending) (w' : World) : Prop := ∃ a, e = .returned (.agg (cfgA c a 1)) ∧ SlV w' a 1 (c.vs.map uV) ∧ Below W.heap.size W w'

set_option maxHeartbeats 4000000 in
theorem plain_any (n g : Int) (W : World) (hn : IntOk n) :
    Calls Tryd.prog 7 #[.int .i64 n, .int .i64 g] W (PlainPost W (plainC n g)) := by
  have N := Lib.hid hn
  clear hn
  go_enter Tryd.func7, Tryd.ntmps7
  by_cases h : n ≤ 64
  · have R := Lib.hid (show (plainC n g).vs = [allN n] by unfold plainC; simp [h])
    go_wp2_with fail
    refine (all_any n _ N.out).mono ?_
    rintro e w' ⟨rfl, rfl⟩
    go_wp2_with fail
    have E := Lib.hid (show cfgA (plainC n g) (some ⟨W.heap.size + 1, 0, none⟩) 1 = #[.int .i64 n, .slice (some ⟨W.heap.size + 1, 0, none⟩) 1 1, .int .i64 2, .int .i64 3, .int .i64 2, .int .i64 8, .int .i64 64, .int .i64 g] from rfl)
    refine bodyPost_ret (v := .agg #[.int .i64 n, .slice (some ⟨W.heap.size + 1, 0, none⟩) 1 1, .int .i64 2, .int .i64 3, .int .i64 2, .int .i64 8, .int .i64 64, .int .i64 g]) (by simp [results, Tryd.results7, go_sem]) rfl ?_
    refine ⟨_, by rw [E.out], ?_, ?_⟩
    · rw [R.out]
      have := slv_lit (W.alloc (.cells #[.int .i64 n, .slice (some ⟨W.heap.size + 1, 0, none⟩) 1 1, .int .i64 2, .int .i64 3, .int .i64 2, .int .i64 8, .int .i64 64, .int .i64 g] 26)) [uV (allN n)] #[.int .u64 (allN n : Nat)] 29 1 rfl rfl (by unfold maxLen; omega)
      simpa using this
    · exact below_alloc (below_alloc (Below.refl _ W) _) _
  · have R := Lib.hid (show (plainC n g).vs = [0] by unfold plainC; simp [h])
    go_wp2_with fail
    have E := Lib.hid (show cfgA (plainC n g) (some ⟨W.heap.size + 1, 0, none⟩) 1 = #[.int .i64 n, .slice (some ⟨W.heap.size + 1, 0, none⟩) 1 1, .int .i64 2, .int .i64 3, .int .i64 2, .int .i64 8, .int .i64 64, .int .i64 g] from rfl)
    refine bodyPost_ret (v := .agg #[.int .i64 n, .slice (some ⟨W.heap.size + 1, 0, none⟩) 1 1, .int .i64 2, .int .i64 3, .int .i64 2, .int .i64 8, .int .i64 64, .int .i64 g]) (by simp [results, Tryd.results7, go_sem]) rfl ?_
    refine ⟨_, by rw [E.out], ?_, ?_⟩
    · rw [R.out]
      have := slv_lit (W.alloc (.cells #[.int .i64 n, .slice (some ⟨W.heap.size + 1, 0, none⟩) 1 1, .int .i64 2, .int .i64 3, .int .i64 2, .int .i64 8, .int .i64 64, .int .i64 g] 26)) [uV (0)] #[.int .u64 (0 : Nat)] 29 1 rfl rfl (by unfold maxLen; omega)
      simpa using this
    · exact below_alloc (below_alloc (Below.refl _ W) _) _

/-- The same, the config written out. -/
theorem plain_out (n g : Int) (W : World) (hn : IntOk n) :
    Calls Tryd.prog 7 #[.int .i64 n, .int .i64 g] W fun e w' => ∃ a, e = .returned (.agg #[.int .i64 n, .slice a 1 1, .int .i64 2, .int .i64 3, .int .i64 2, .int .i64 8, .int .i64 64, .int .i64 g]) ∧ SlV w' a 1 ((plainC n g).vs.map uV) ∧ Below W.heap.size W w' :=
  plain_any n g W hn

/-- What a walk bears along: a config in a block of its own, its variables; all else below N as it was. -/
structure Bun (W : World) (N B : Nat) (c : Cfg) (ao : Option Addr) (cap : Nat) (w : World) : Prop where
  be : Below N W w
  le : N ≤ w.heap.size
  bx : Boxed w B c ao cap
  sl : SlV w ao cap (c.vs.map uV)
theorem Bun.of {W w w' : World} {N B : Nat} {c : Cfg} {ao : Option Addr} {cap : Nat} (hb : Below w.heap.size w w') (h : Hid (Bun W N B c ao cap w)) : Hid (Bun W N B c ao cap w') :=
  Lib.hid ⟨h.out.be.trans (hb.mono h.out.le), Nat.le_trans h.out.le hb.size, h.out.bx.below hb, h.out.sl.below hb⟩
theorem Bun.alloc {W w : World} {N B : Nat} {c : Cfg} {ao : Option Addr} {cap : Nat} {o : Obj} (h : Hid (Bun W N B c ao cap w)) : Hid (Bun W N B c ao cap (w.alloc o)) :=
  Bun.of (below_alloc (Below.refl _ _) o) h
theorem drew_below (w : World) : Below w.heap.size w w.drew := ⟨rfl, rfl, rfl, Nat.le_refl _, fun _ _ => rfl⟩
theorem Bun.drew {W w : World} {N B : Nat} {c : Cfg} {ao : Option Addr} {cap : Nat} (h : Hid (Bun W N B c ao cap w)) : Hid (Bun W N B c ao cap w.drew) :=
  Bun.of (drew_below w) h
theorem Bun.all {W w : World} {N B : Nat} {n : Int} {vs : List Nat} {win que fst mst bod eng : Int} {ao : Option Addr} {cap : Nat} (h : Hid (Bun W N B ⟨n, vs, win, que, fst, mst, bod, eng⟩ ao cap w)) :
    w.cell? ⟨B, 0, none⟩ = some (.int .i64 n) ∧ w.cell? ⟨B, 1, none⟩ = some (.slice ao vs.length cap) ∧ w.cell? ⟨B, 2, none⟩ = some (.int .i64 win) ∧ w.cell? ⟨B, 3, none⟩ = some (.int .i64 que) ∧
      w.cell? ⟨B, 4, none⟩ = some (.int .i64 fst) ∧ w.cell? ⟨B, 5, none⟩ = some (.int .i64 mst) ∧ w.cell? ⟨B, 6, none⟩ = some (.int .i64 bod) ∧ w.cell? ⟨B, 7, none⟩ = some (.int .i64 eng) ∧ Hid (Bun W N B ⟨n, vs, win, que, fst, mst, bod, eng⟩ ao cap w) :=
  ⟨h.out.bx.c0, h.out.bx.c1, h.out.bx.c2, h.out.bx.c3, h.out.bx.c4, h.out.bx.c5, h.out.bx.c6, h.out.bx.c7, h⟩

end Go.Proofs.YtnipoknmhcgplaaDoor
