/-
  What is no number changes nothing: the walk of the statement.
-/
import Derived.Test.YtlbbbabieepabaaMaw
namespace Go.Proofs.Ytlbbbabieepabaa
open Go.RowKit

theorem beq_cast (a b : Nat) : ((a : Int) == (b : Int)) = decide (a = b) := by rw [Bool.eq_iff_iff]; simp; omega

set_option maxHeartbeats 400000 in
theorem same2_any (a b : Nat) (w : World) (ha : a < 18446744073709551616) (hb : b < 18446744073709551616) (h : Sim a b) :
    Calls Try.prog 33 #[.float .f64 a, .float .f64 b] w fun e w' => e = .returned (.bool true) ∧ w = w' := by
  have hn := f64bits_run
  by_cases he : a = b
  · subst he
    have d : ((a : Int) == (a : Int)) = true := by simp
    clear h
    go_enter Try.func33, Try.ntmps33
    go_wp2
    go_ret
    exact ⟨rfl, rfl⟩
  · have d : ((a : Int) == (b : Int)) = false := by rw [beq_cast]; simpa using he
    rcases h with h | ⟨x, y⟩
    · exact absurd h he
    have d1 := nan_self a ha
    have d2 := nan_self b hb
    rw [x] at d1
    rw [y] at d2
    clear he x y
    go_enter Try.func33, Try.ntmps33
    go_wp2
    go_ret
    exact ⟨rfl, rfl⟩

/-- A row of floats that came in: nil, or its cells. -/
def IsFloats (w : World) (v : Value) (xs : List Nat) : Prop := (∃ a cap, v = .slice a 0 cap ∧ xs = []) ∨ ∃ b off cap, v = .slice (some ⟨b, off, none⟩) xs.length cap ∧ b < w.heap.size ∧ Floats w b off xs

/-- Both meters, round by round. -/
def NoneRel (W : World) (xs : List Nat) (at' : Int) (pa pb : Nat) (i : Value) (w : World) : Prop :=
  ∃ (k : Nat) (Fa Fb : Nat → Prop) (lb : List Nat), k ≤ xs.length ∧ i = .int .i64 (k : Nat) ∧ MeterAt w W.heap.size pa Fa (xs.take k) ∧ MeterAt w W.heap.size pb Fb lb ∧ (∀ j, Fa j → ¬ Fb j) ∧ Below W.heap.size W w ∧
    numsL lb = numsL (xs.take k) ∧ finL lb = finL (xs.take k) ∧ lb.length = k + (if 0 ≤ at' ∧ at' < (k : Int) then 1 else 0) ∧ (∀ y ∈ lb, y < 18446744073709551616)

/-- The same, told place by place: nil or not. -/
def AreF (w : World) (ao : Option Addr) (xs : List Nat) : Prop := (∀ x ∈ xs, x < 18446744073709551616) ∧ ∀ i (hi : i < xs.length), ∃ b off, ao = some ⟨b, off, none⟩ ∧ b < w.heap.size ∧ w.cell? ⟨b, off + i, none⟩ = some (.float .f64 xs[i])

theorem IsFloats.are {w : World} {v : Value} {xs : List Nat} (h : IsFloats w v xs) : ∃ ao cap, v = .slice ao xs.length cap ∧ AreF w ao xs := by
  rcases h with ⟨a, cap, rfl, rfl⟩ | ⟨b, off, cap, rfl, hb, hf⟩
  · exact ⟨a, cap, rfl, by simp, fun i hi => by simp at hi⟩
  · exact ⟨_, cap, rfl, hf.lt, fun i hi => ⟨b, off, rfl, hb, hf.cell i hi⟩⟩

theorem both_b {W w w' : World} {N pa pb : Nat} {Fa Fb : Nat → Prop} {la lb : List Nat} {x : Nat} {e : Ending} (ha : MeterAt w N pa Fa la) (hb : MeterAt w N pb Fb lb) (hd : ∀ j, Fa j → ¬ Fb j) (hN : N ≤ W.heap.size) (hW : W.heap.size ≤ N) (hB : Below W.heap.size W w) (h : AddPost w N pb Fb lb x e w') :
    e = .returned (.tuple #[]) ∧ ∃ Fb', MeterAt w' N pa Fa la ∧ MeterAt w' N pb Fb' (lb ++ [x]) ∧ (∀ j, Fa j → ¬ Fb' j) ∧ Below W.heap.size W w' := by
  obtain ⟨he, F', h1, h2, h3⟩ := h
  have hlow := ha.low
  have hlowb := hb.low
  have hsz := hB.size
  refine ⟨he, F', ha.keep h2 hd, h1, fun j f f' => ?_, h2.belowAt hB hsz (fun k f => by have := hlowb k f; omega)⟩
  rcases h3 j f' with h | h
  · exact hd j f h
  · have := hlow j f; omega

theorem both_a {W w w' : World} {N pa pb : Nat} {Fa Fb : Nat → Prop} {la lb : List Nat} {x : Nat} {e : Ending} (ha : MeterAt w N pa Fa la) (hb : MeterAt w N pb Fb lb) (hd : ∀ j, Fa j → ¬ Fb j) (hN : N ≤ W.heap.size) (hW : W.heap.size ≤ N) (hB : Below W.heap.size W w) (h : AddPost w N pa Fa la x e w') :
    e = .returned (.tuple #[]) ∧ ∃ Fa', MeterAt w' N pa Fa' (la ++ [x]) ∧ MeterAt w' N pb Fb lb ∧ (∀ j, Fa' j → ¬ Fb j) ∧ Below W.heap.size W w' := by
  obtain ⟨he, F', h1, h2, h3, h4⟩ := both_b hb ha (fun j f g => hd j g f) hN hW hB h
  exact ⟨he, F', h2, h1, fun j f g => h3 j g f, h4⟩

theorem none_x {xs lb : List Nat} {k x : Nat} (hk : k < xs.length) (hx : xs[k] = x) (h1 : numsL lb = numsL (xs.take k)) (h2 : finL lb = finL (xs.take k)) : numsL (lb ++ [x]) = numsL (xs.take (k + 1)) ∧ finL (lb ++ [x]) = finL (xs.take (k + 1)) ∧ xs.take k ++ [x] = xs.take (k + 1) := by
  have e : xs.take (k + 1) = xs.take k ++ [x] := by rw [List.take_succ_eq_append_getElem hk, hx]
  refine ⟨?_, ?_, e.symm⟩
  · rw [e, numsL_snoc, numsL_snoc, h1]
  · rw [e, finL_snoc, finL_snoc, h2]
theorem none_nan {lb : List Nat} : numsL (lb ++ [nanW]) = numsL lb ∧ finL (lb ++ [nanW]) = finL lb := by
  constructor
  · rw [numsL_snoc, if_pos nanW_nan]
  · rw [finL_snoc, if_neg (by unfold finB; simp [nanW_nan])]

theorem count_b (W : World) (N p : Nat) (F : Nat → Prop) (l : List Nat) (a b c : Nat) (hA : MeterAt W N p F l) (h1 : l.length = a) (h2 : (numsL l).length = b) (h3 : (finL l).length = c) : Calls Try.prog 10 #[.pointer (some ⟨p, 0, none⟩)] W fun e w' =>
    e = .returned (.tuple #[.int .i64 (a : Nat), .int .i64 (b : Nat), .int .i64 (c : Nat)]) ∧ ∃ q, w' = W.drewN q := by
  have := count_any W N p F l hA
  unfold CountPost at this
  rw [h1, h2, h3] at this
  exact this
theorem float_known {W : World} {c : Nat} {f : FuncId} {args : Array Value} (h : Calls Try.prog f args W (FloatIs W c)) : Calls Try.prog f args W fun e w' => ∃ r, e = .returned (.float .f64 r) ∧ Hid (Sim r c) ∧ Hid (r < 18446744073709551616) ∧ W = w' := h
theorem float_drew {W : World} {c : Nat} {f : FuncId} {args : Array Value} (h : Calls Try.prog f args W (FloatPost W c)) : Calls Try.prog f args W fun e w' => ∃ r q, e = .returned (.float .f64 r) ∧ Hid (Sim r c) ∧ Hid (r < 18446744073709551616) ∧ w' = W.drewN q := h

/-- One more is taken in by a meter that lies above all others. -/
theorem add_over {W w : World} {N p : Nat} {F : Nat → Prop} {l : List Nat} (hA : MeterAt w N p F l) (x : Nat) (hx : x < 18446744073709551616) (hl : ∀ y ∈ l, y < 18446744073709551616) (hn : l.length ≤ 90) (hN : W.heap.size ≤ N) (hb : Below W.heap.size W w) :
    Calls Try.prog 11 #[.pointer (some ⟨p, 0, none⟩), .float .f64 x] w fun e w' => e = .returned (.tuple #[]) ∧ ∃ F', MeterAt w' N p F' (l ++ [x]) ∧ Below N w w' ∧ Below W.heap.size W w' := by
  refine (add_any w N p F l x hA hx hl hn).mono ?_
  rintro e w' ⟨he, F', h1, h2, h3⟩
  have hNs : N ≤ w.heap.size := by
    obtain ⟨s, v, vs, rs, hM, _⟩ := hA
    have := hM.low p hM.inP
    omega
  have hB := h2.below hNs (fun k f => (hA.low k f).1)
  exact ⟨he, F', h1, hB, hb.trans (hB.mono hN)⟩

theorem MeterAt.under {w w' : World} {N M p : Nat} {F : Nat → Prop} {l : List Nat} (h : MeterAt w N p F l) (hF : ∀ k, F k → k < M) (hb : Below M w w') : MeterAt w' N p F l :=
  h.carry hb.size (fun k f => hb.block k (hF k f))

set_option maxRecDepth 100000 in
set_option maxHeartbeats 4000000 in
theorem law_MeterNone (v : Value) (at' : Int) (W : World) (xs : List Nat) (hv : IsFloats W v xs) (hat : -9223372036854775808 ≤ at' ∧ at' ≤ 9223372036854775807) :
    Calls Try.prog 6 #[v, .int .i64 at'] W fun e w' => e = .returned (.bool true) ∧ Below W.heap.size W w' := by
  obtain ⟨ha0, ha1⟩ := hat
  obtain ⟨ao, cap, rfl, hxs⟩ := hv.are
  have X := Lib.hid hxs
  clear hv hxs
  by_cases hlen : xs.length ≤ 40
  · have t1 : ¬ (40 : Int) < (xs.length : Int) := by omega
    go_enter Try.func6, Try.ntmps6
    go_wp2_with fail
    refine (awake_any W).mono ?_
    rintro e w0 ⟨rfl, hb0⟩
    have B0 := Lib.hid hb0
    clear hb0
    go_wp2_with fail
    refine (new_any w0 W.heap.size B0.out.size).mono ?_
    rintro e w1 ⟨rfl, hA1, hb1⟩
    have A1 := Lib.hid hA1
    have B1 := Lib.hid (B0.out.trans (hb1.mono B0.out.size))
    have S1 := Lib.hid hb1.size
    clear hA1 hb1
    go_wp2_with fail
    refine (new_any w1 W.heap.size B1.out.size).mono ?_
    rintro e w2 ⟨rfl, hA2, hb2⟩
    have hrel0 : NoneRel W xs at' w0.heap.size w1.heap.size (.int .i64 ((0 : Nat) : Int)) w2 := by
      refine ⟨0, _, _, [], Nat.zero_le _, rfl, A1.out.carry hb2.size (fun k f => hb2.block k (A1.out.low k f).2), hA2, ?_, B1.out.trans (hb2.mono B1.out.size), rfl, rfl, ?_, by simp⟩
      · intro j f g
        have := (A1.out.low j f).2
        omega
      · rw [if_neg (by omega)]; rfl
    have R0 := Lib.hid hrel0
    generalize hpa : w0.heap.size = pa at *
    generalize hpb : w1.heap.size = pb at *
    clear hA2 hb2 hrel0 hpa hpb A1 S1
    go_wp2_with fail
    go_loopw [7] (fun i wr => NoneRel W xs at' pa pb i wr) (fun i _ => xs.length - (intOf i).toNat)
    case atStart => exact R0.out
    case round =>
      obtain ⟨k, Fa, Fb, lb, hk, rfl, hA, hB, hd, hW, hn1, hn2, hl, hlt⟩ := hrel
      have HA := Lib.hid hA
      have HB := Lib.hid hB
      have HD := Lib.hid hd
      have HW := Lib.hid hW
      have N1 := Lib.hid hn1
      have N2 := Lib.hid hn2
      have NL := Lib.hid hl
      have NT := Lib.hid hlt
      have hlb : lb.length ≤ 60 := by rw [hl]; split <;> omega
      clear hA hB hd hW hn1 hn2 hl hlt
      by_cases hlt : k < xs.length
      · obtain ⟨b, off, rfl, hbW, hc⟩ := X.out.2 k hlt
        have hxk := X.out.1 xs[k] (List.getElem_mem hlt)
        have hta : (xs.take k).length ≤ 60 := by simp; omega
        have htl : ∀ y ∈ xs.take k, y < 18446744073709551616 := fun y hy => X.out.1 y (List.mem_of_mem_take hy)
        generalize hx : xs[k] = x at *
        have HX := Lib.hid hx
        have C := Lib.hid hc
        have TL := Lib.hid htl
        clear hx hc htl
        by_cases heq : (k : Int) = at'
        · have d : ((k : Int) == at') = true := by simpa using heq
          have EQ := Lib.hid heq
          clear heq
          go_wp2_with (go_at_call 12; refine (nan_any _).mono ?_; rintro e w' ⟨rfl, rfl⟩)
          refine ((add_any wr _ _ _ lb nanW HB.out (by decide) NT.out (by omega)).mono fun e w' h => both_b HA.out HB.out HD.out (Nat.le_refl _) (Nat.le_refl _) HW.out h).mono ?_
          rintro e w3 ⟨rfl, Fb', hA3, hB3, hd3, hW3⟩
          have hcx := (hW3.cell (p := ⟨b, off + k, none⟩) hbW).trans C.out
          have A3 := Lib.hid hA3
          have B3 := Lib.hid hB3
          have D3 := Lib.hid hd3
          have W3 := Lib.hid hW3
          have T3 : Hid (∀ y ∈ lb ++ [nanW], y < 18446744073709551616) := fun y hy => (List.mem_append.1 hy).elim (NT.out y) (fun h => by rw [List.mem_singleton.1 h]; decide)
          clear hA3 hB3 hd3 hW3
          go_wp2_with fail
          refine ((add_any w3 _ _ _ (xs.take k) x A3.out hxk TL.out (by omega)).mono fun e w' h => both_a A3.out B3.out D3.out (Nat.le_refl _) (Nat.le_refl _) W3.out h).mono ?_
          rintro e w4 ⟨rfl, Fa', hA4, hB4, hd4, hW4⟩
          have hcx4 := (hW4.cell (p := ⟨b, off + k, none⟩) hbW).trans C.out
          have A4 := Lib.hid hA4
          have B4 := Lib.hid hB4
          have D4 := Lib.hid hd4
          have W4 := Lib.hid hW4
          clear hA4 hB4 hd4 hW4 hcx
          go_wp2_with fail
          refine ((add_any w4 _ _ _ (lb ++ [nanW]) x B4.out hxk T3.out (by simp; omega)).mono fun e w' h => both_b A4.out B4.out D4.out (Nat.le_refl _) (Nat.le_refl _) W4.out h).mono ?_
          rintro e w5 ⟨rfl, Fb5, hA5, hB5, hd5, hW5⟩
          obtain ⟨m1, m2⟩ := none_nan (lb := lb)
          obtain ⟨m3, m4, m5⟩ := none_x hlt HX.out (m1.trans N1.out) (m2.trans N2.out)
          rw [m5] at hA5
          have R5 : NoneRel W xs at' pa pb (.int .i64 ((k + 1 : Nat) : Int)) w5 := by
            refine ⟨k + 1, Fa', Fb5, lb ++ [nanW] ++ [x], by omega, rfl, hA5, hB5, hd5, hW5, m3, m4, ?_, ?_⟩
            · have := NL.out
              have := EQ.out
              simp only [List.length_append, List.length_singleton]
              rw [if_pos (by omega)]
              rw [if_neg (by omega)] at *
              omega
            · intro y hy
              rcases List.mem_append.1 hy with h | h
              · exact T3.out y h
              · rw [List.mem_singleton.1 h]; exact hxk
          have R := Lib.hid R5
          clear hA5 hB5 hd5 hW5 m1 m2 m3 m4 m5 R5 hcx4
          go_wp2_with fail
          go_roundw
          case rel => exact R.out
          case measure => simp [intOf]; omega
        · have d : ((k : Int) == at') = false := by simpa using heq
          have EQ := Lib.hid heq
          clear heq
          have hcx := (HW.out.cell (p := ⟨b, off + k, none⟩) hbW).trans C.out
          go_wp2_with fail
          refine ((add_any wr _ _ _ (xs.take k) x HA.out hxk TL.out (by omega)).mono fun e w' h => both_a HA.out HB.out HD.out (Nat.le_refl _) (Nat.le_refl _) HW.out h).mono ?_
          rintro e w4 ⟨rfl, Fa', hA4, hB4, hd4, hW4⟩
          have hcx4 := (hW4.cell (p := ⟨b, off + k, none⟩) hbW).trans C.out
          have A4 := Lib.hid hA4
          have B4 := Lib.hid hB4
          have D4 := Lib.hid hd4
          have W4 := Lib.hid hW4
          clear hA4 hB4 hd4 hW4 hcx
          go_wp2_with fail
          refine ((add_any w4 _ _ _ lb x B4.out hxk NT.out (by omega)).mono fun e w' h => both_b A4.out B4.out D4.out (Nat.le_refl _) (Nat.le_refl _) W4.out h).mono ?_
          rintro e w5 ⟨rfl, Fb5, hA5, hB5, hd5, hW5⟩
          obtain ⟨m3, m4, m5⟩ := none_x hlt HX.out N1.out N2.out
          rw [m5] at hA5
          have R5 : NoneRel W xs at' pa pb (.int .i64 ((k + 1 : Nat) : Int)) w5 := by
            refine ⟨k + 1, Fa', Fb5, lb ++ [x], by omega, rfl, hA5, hB5, hd5, hW5, m3, m4, ?_, ?_⟩
            · have h1 := NL.out
              have h2 := EQ.out
              simp only [List.length_append, List.length_singleton]
              by_cases h3 : 0 ≤ at' ∧ at' < (k : Int)
              · rw [if_pos h3] at h1; rw [if_pos (by omega)]; omega
              · rw [if_neg h3] at h1; rw [if_neg (by omega)]; omega
            · intro y hy
              rcases List.mem_append.1 hy with h | h
              · exact NT.out y h
              · rw [List.mem_singleton.1 h]; exact hxk
          have R := Lib.hid R5
          clear hA5 hB5 hd5 hW5 m3 m4 m5 R5 hcx4
          go_wp2_with fail
          go_roundw
          case rel => exact R.out
          case measure => simp [intOf]; omega
      · have hke : k = xs.length := by omega
        have hA0 : MeterAt wr W.heap.size pa Fa xs := by have := HA.out; rwa [hke, List.take_length] at this
        have e1 : numsL lb = numsL xs := by have := N1.out; rwa [hke, List.take_length] at this
        have e2 : finL lb = finL xs := by have := N2.out; rwa [hke, List.take_length] at this
        have hm := NL.out
        rw [hke] at hm
        have A := Lib.hid hA0
        have E1 := Lib.hid e1
        have E2 := Lib.hid e2
        have T := Lib.hid (min_lt _ (numsL_lt X.out.1))
        have T' := Lib.hid (max_lt _ (numsL_lt X.out.1))
        clear hA0 e1 e2 hke
        generalize hmm : lb.length = m at *
        have M := Lib.hid hmm
        clear hmm
        generalize hnn : (numsL xs).length = nn
        generalize hff : (finL xs).length = ff
        have NN := Lib.hid hnn
        have FF := Lib.hid hff
        clear hnn hff
        by_cases h0 : 0 ≤ at'
        · by_cases h1 : at' < (xs.length : Int)
          · rw [if_pos ⟨h0, h1⟩] at hm
            have d : ((m : Int) == (xs.length : Int) + 1) = true := by rw [hm]; simp
            clear hm
            go_wp2_with fail
            refine (count_b wr _ _ _ xs _ nn ff A.out rfl NN.out FF.out).mono ?_
            rintro e w' ⟨rfl, q1, rfl⟩
            go_wp2_with fail
            refine (count_b (wr.drewN q1) _ _ _ lb _ nn ff (HB.out.drewN q1) M.out (by rw [E1.out]; exact NN.out) (by rw [E2.out]; exact FF.out)).mono ?_
            rintro e w' ⟨rfl, q2, rfl⟩
            go_wp2_with fail
            refine (float_known (sum_any (wr.drewN (q1 + q2)) _ _ _ xs (A.out.drewN _))).mono ?_
            rintro e w' ⟨r1, rfl, s1, l1, rfl⟩
            go_wp2_with fail
            refine (float_known (sum_any (wr.drewN (q1 + q2)) _ _ _ lb (HB.out.drewN _))).mono ?_
            rintro e w' ⟨r2, rfl, s2, l2, rfl⟩
            go_wp2_with fail
            refine (same2_any r1 r2 _ l1.out l2.out (s1.out.trans (by rw [← E1.out]; exact s2.out.symm))).mono ?_
            rintro e w' ⟨rfl, rfl⟩
            go_wp2_with fail
            refine (float_drew (mean_any (wr.drewN (q1 + q2)) _ _ _ xs (A.out.drewN _))).mono ?_
            rintro e w' ⟨r3, q3, rfl, s3, l3, rfl⟩
            go_wp2_with fail
            refine (float_drew (mean_any (wr.drewN (q1 + q2 + q3)) _ _ _ lb (HB.out.drewN _))).mono ?_
            rintro e w' ⟨r4, q4, rfl, s4, l4, rfl⟩
            go_wp2_with fail
            refine (same2_any r3 r4 _ l3.out l4.out (s3.out.trans (by rw [← E1.out]; exact s4.out.symm))).mono ?_
            rintro e w' ⟨rfl, rfl⟩
            go_wp2_with fail
            refine (least_any (wr.drewN (q1 + q2 + q3 + q4)) _ _ _ xs (A.out.drewN _)).mono ?_
            rintro e w' ⟨rfl, rfl⟩
            go_wp2_with fail
            refine (least_any (wr.drewN (q1 + q2 + q3 + q4)) _ _ _ lb (HB.out.drewN _)).mono ?_
            rintro e w' ⟨rfl, rfl⟩
            rw [E1.out]
            go_wp2_with fail
            refine (same2_any _ _ _ T.out T.out (Sim.refl _)).mono ?_
            rintro e w' ⟨rfl, rfl⟩
            go_wp2_with fail
            refine (most_any (wr.drewN (q1 + q2 + q3 + q4)) _ _ _ xs (A.out.drewN _)).mono ?_
            rintro e w' ⟨rfl, rfl⟩
            go_wp2_with fail
            refine (most_any (wr.drewN (q1 + q2 + q3 + q4)) _ _ _ lb (HB.out.drewN _)).mono ?_
            rintro e w' ⟨rfl, rfl⟩
            rw [E1.out]
            go_wp2_with fail
            refine (same2_any _ _ _ T'.out T'.out (Sim.refl _)).mono ?_
            rintro e w' ⟨rfl, rfl⟩
            go_wp2_with fail
            refine (float_known (smooth_any (wr.drewN (q1 + q2 + q3 + q4)) _ _ _ xs (A.out.drewN _))).mono ?_
            rintro e w' ⟨r5, rfl, s5, l5, rfl⟩
            go_wp2_with fail
            refine (float_known (smooth_any (wr.drewN (q1 + q2 + q3 + q4)) _ _ _ lb (HB.out.drewN _))).mono ?_
            rintro e w' ⟨r6, rfl, s6, l6, rfl⟩
            go_wp2_with fail
            refine (same2_any r5 r6 _ l5.out l6.out (s5.out.trans (by rw [← E2.out]; exact s6.out.symm))).mono ?_
            rintro e w' ⟨rfl, rfl⟩
            go_wp2_with fail
            go_ret
            exact ⟨rfl, below_drewN HW.out _⟩
          · rw [if_neg (fun h => h1 h.2)] at hm
            obtain rfl : m = xs.length := hm
            have d1 : decide (at' < (xs.length : Int)) = false := by simpa using h1
            go_wp2_with fail
            refine (count_b wr _ _ _ xs _ nn ff A.out rfl NN.out FF.out).mono ?_
            rintro e w' ⟨rfl, q1, rfl⟩
            go_wp2_with fail
            refine (count_b (wr.drewN q1) _ _ _ lb _ nn ff (HB.out.drewN q1) M.out (by rw [E1.out]; exact NN.out) (by rw [E2.out]; exact FF.out)).mono ?_
            rintro e w' ⟨rfl, q2, rfl⟩
            go_wp2_with fail
            refine (float_known (sum_any (wr.drewN (q1 + q2)) _ _ _ xs (A.out.drewN _))).mono ?_
            rintro e w' ⟨r1, rfl, s1, l1, rfl⟩
            go_wp2_with fail
            refine (float_known (sum_any (wr.drewN (q1 + q2)) _ _ _ lb (HB.out.drewN _))).mono ?_
            rintro e w' ⟨r2, rfl, s2, l2, rfl⟩
            go_wp2_with fail
            refine (same2_any r1 r2 _ l1.out l2.out (s1.out.trans (by rw [← E1.out]; exact s2.out.symm))).mono ?_
            rintro e w' ⟨rfl, rfl⟩
            go_wp2_with fail
            refine (float_drew (mean_any (wr.drewN (q1 + q2)) _ _ _ xs (A.out.drewN _))).mono ?_
            rintro e w' ⟨r3, q3, rfl, s3, l3, rfl⟩
            go_wp2_with fail
            refine (float_drew (mean_any (wr.drewN (q1 + q2 + q3)) _ _ _ lb (HB.out.drewN _))).mono ?_
            rintro e w' ⟨r4, q4, rfl, s4, l4, rfl⟩
            go_wp2_with fail
            refine (same2_any r3 r4 _ l3.out l4.out (s3.out.trans (by rw [← E1.out]; exact s4.out.symm))).mono ?_
            rintro e w' ⟨rfl, rfl⟩
            go_wp2_with fail
            refine (least_any (wr.drewN (q1 + q2 + q3 + q4)) _ _ _ xs (A.out.drewN _)).mono ?_
            rintro e w' ⟨rfl, rfl⟩
            go_wp2_with fail
            refine (least_any (wr.drewN (q1 + q2 + q3 + q4)) _ _ _ lb (HB.out.drewN _)).mono ?_
            rintro e w' ⟨rfl, rfl⟩
            rw [E1.out]
            go_wp2_with fail
            refine (same2_any _ _ _ T.out T.out (Sim.refl _)).mono ?_
            rintro e w' ⟨rfl, rfl⟩
            go_wp2_with fail
            refine (most_any (wr.drewN (q1 + q2 + q3 + q4)) _ _ _ xs (A.out.drewN _)).mono ?_
            rintro e w' ⟨rfl, rfl⟩
            go_wp2_with fail
            refine (most_any (wr.drewN (q1 + q2 + q3 + q4)) _ _ _ lb (HB.out.drewN _)).mono ?_
            rintro e w' ⟨rfl, rfl⟩
            rw [E1.out]
            go_wp2_with fail
            refine (same2_any _ _ _ T'.out T'.out (Sim.refl _)).mono ?_
            rintro e w' ⟨rfl, rfl⟩
            go_wp2_with fail
            refine (float_known (smooth_any (wr.drewN (q1 + q2 + q3 + q4)) _ _ _ xs (A.out.drewN _))).mono ?_
            rintro e w' ⟨r5, rfl, s5, l5, rfl⟩
            go_wp2_with fail
            refine (float_known (smooth_any (wr.drewN (q1 + q2 + q3 + q4)) _ _ _ lb (HB.out.drewN _))).mono ?_
            rintro e w' ⟨r6, rfl, s6, l6, rfl⟩
            go_wp2_with fail
            refine (same2_any r5 r6 _ l5.out l6.out (s5.out.trans (by rw [← E2.out]; exact s6.out.symm))).mono ?_
            rintro e w' ⟨rfl, rfl⟩
            go_wp2_with fail
            go_ret
            exact ⟨rfl, below_drewN HW.out _⟩
        · rw [if_neg (fun h => h0 h.1)] at hm
          obtain rfl : m = xs.length := hm
          have d0 : decide (0 ≤ at') = false := by simpa using h0
          go_wp2_with fail
          refine (count_b wr _ _ _ xs _ nn ff A.out rfl NN.out FF.out).mono ?_
          rintro e w' ⟨rfl, q1, rfl⟩
          go_wp2_with fail
          refine (count_b (wr.drewN q1) _ _ _ lb _ nn ff (HB.out.drewN q1) M.out (by rw [E1.out]; exact NN.out) (by rw [E2.out]; exact FF.out)).mono ?_
          rintro e w' ⟨rfl, q2, rfl⟩
          go_wp2_with fail
          refine (float_known (sum_any (wr.drewN (q1 + q2)) _ _ _ xs (A.out.drewN _))).mono ?_
          rintro e w' ⟨r1, rfl, s1, l1, rfl⟩
          go_wp2_with fail
          refine (float_known (sum_any (wr.drewN (q1 + q2)) _ _ _ lb (HB.out.drewN _))).mono ?_
          rintro e w' ⟨r2, rfl, s2, l2, rfl⟩
          go_wp2_with fail
          refine (same2_any r1 r2 _ l1.out l2.out (s1.out.trans (by rw [← E1.out]; exact s2.out.symm))).mono ?_
          rintro e w' ⟨rfl, rfl⟩
          go_wp2_with fail
          refine (float_drew (mean_any (wr.drewN (q1 + q2)) _ _ _ xs (A.out.drewN _))).mono ?_
          rintro e w' ⟨r3, q3, rfl, s3, l3, rfl⟩
          go_wp2_with fail
          refine (float_drew (mean_any (wr.drewN (q1 + q2 + q3)) _ _ _ lb (HB.out.drewN _))).mono ?_
          rintro e w' ⟨r4, q4, rfl, s4, l4, rfl⟩
          go_wp2_with fail
          refine (same2_any r3 r4 _ l3.out l4.out (s3.out.trans (by rw [← E1.out]; exact s4.out.symm))).mono ?_
          rintro e w' ⟨rfl, rfl⟩
          go_wp2_with fail
          refine (least_any (wr.drewN (q1 + q2 + q3 + q4)) _ _ _ xs (A.out.drewN _)).mono ?_
          rintro e w' ⟨rfl, rfl⟩
          go_wp2_with fail
          refine (least_any (wr.drewN (q1 + q2 + q3 + q4)) _ _ _ lb (HB.out.drewN _)).mono ?_
          rintro e w' ⟨rfl, rfl⟩
          rw [E1.out]
          go_wp2_with fail
          refine (same2_any _ _ _ T.out T.out (Sim.refl _)).mono ?_
          rintro e w' ⟨rfl, rfl⟩
          go_wp2_with fail
          refine (most_any (wr.drewN (q1 + q2 + q3 + q4)) _ _ _ xs (A.out.drewN _)).mono ?_
          rintro e w' ⟨rfl, rfl⟩
          go_wp2_with fail
          refine (most_any (wr.drewN (q1 + q2 + q3 + q4)) _ _ _ lb (HB.out.drewN _)).mono ?_
          rintro e w' ⟨rfl, rfl⟩
          rw [E1.out]
          go_wp2_with fail
          refine (same2_any _ _ _ T'.out T'.out (Sim.refl _)).mono ?_
          rintro e w' ⟨rfl, rfl⟩
          go_wp2_with fail
          refine (float_known (smooth_any (wr.drewN (q1 + q2 + q3 + q4)) _ _ _ xs (A.out.drewN _))).mono ?_
          rintro e w' ⟨r5, rfl, s5, l5, rfl⟩
          go_wp2_with fail
          refine (float_known (smooth_any (wr.drewN (q1 + q2 + q3 + q4)) _ _ _ lb (HB.out.drewN _))).mono ?_
          rintro e w' ⟨r6, rfl, s6, l6, rfl⟩
          go_wp2_with fail
          refine (same2_any r5 r6 _ l5.out l6.out (s5.out.trans (by rw [← E2.out]; exact s6.out.symm))).mono ?_
          rintro e w' ⟨rfl, rfl⟩
          go_wp2_with fail
          go_ret
          exact ⟨rfl, below_drewN HW.out _⟩
  · have t1 : (40 : Int) < (xs.length : Int) := by omega
    go_enter Try.func6, Try.ntmps6
    go_wp2_with fail
    refine (awake_any W).mono ?_
    rintro e w0 ⟨rfl, hb0⟩
    have B0 := Lib.hid hb0
    clear hb0
    go_wp2_with fail
    go_ret
    exact ⟨rfl, B0.out⟩

end Go.Proofs.Ytlbbbabieepabaa
