/-
  Texts of this claim, put together.
-/
import Derived.Test.YtbmpeadoicjpnaaMaf
import Derived.Test.YtbmpeadoicjpnaaMan
import Derived.Test.YtbmpeadoicjpnaaMad
import Derived.Test.YtbmpeadoicjpnaaMam
import Derived.Test.YtbmpeadoicjpnaaMag

/-
  trim.Put.
-/
namespace Go.Proofs.Ytbmpeadoicjpnaa
open Go.RowKit Go.Sort

/-- A writer, and a block of three cells that is none of it. -/
def WrC (W : World) (N p q : Nat) (V : Nat → Value) (bs : List Nat) (w : World) : Prop := ∃ F, WrAt w N p F bs ∧ ¬ F q ∧ Cel 3 w q V ∧ Below N W w
theorem WrC.wr {W w : World} {N p q : Nat} {V : Nat → Value} {bs : List Nat} (h : WrC W N p q V bs w) : WrOn W N p bs w := by
  obtain ⟨F, h1, -, -, h4⟩ := h
  exact ⟨⟨F, h1⟩, h4⟩
theorem WrC.cel {W w : World} {N p q : Nat} {V : Nat → Value} {bs : List Nat} (h : WrC W N p q V bs w) : Cel 3 w q V := by
  obtain ⟨F, -, -, h3, -⟩ := h
  exact h3
theorem WrC.start {W w w' : World} {N p : Nat} {V : Nat → Value} {bs : List Nat} (h : WrOn W N p bs w) (hb : Below w.heap.size w w') (C : Cel 3 w' w.heap.size V) : WrC W N p w.heap.size V bs w' := by
  obtain ⟨⟨F, hA⟩, hB⟩ := h
  exact ⟨F, hA.below hb, fun f => by have := (hA.size.2.2 _ f).2; omega, C, hB.trans (hb.mono hA.size.1)⟩
theorem WrC.post {W w w' : World} {N p q : Nat} {V : Nat → Value} {F : Nat → Prop} {bs cs : List Nat} {e : Ending} (hA : WrAt w N p F bs) (hq : ¬ F q) (C : Cel 3 w q V) (hB : Below N W w) (h : WrPost w N p F cs e w') : WrC W N p q V cs w' := by
  obtain ⟨_, F', hA', hK, hF⟩ := h
  have hN : N ≤ w.heap.size := hA.size.1
  exact ⟨F', hA', fun f => by
    rcases hF q f with f | f
    · exact hq f
    · have := C.lt; omega, C.keep hK hq, hB.trans (hK.below hN (fun k f => (hA.size.2.2 k f).1))⟩
theorem wc_num {W w : World} {N p q n : Nat} {z : Int} {V : Nat → Value} {bs : List Nat} (h : WrC W N p q V bs w) (hz : (n : Int) = z) (hn : n < 18446744073709551616) (hl : bs.length ≤ 1000000) :
    Calls Try.prog 45 #[.pointer (some ⟨p, 0, none⟩), .int .u64 z] w fun e w' => e = .returned (.tuple #[]) ∧ WrC W N p q V (bs ++ lebL n) w' := by
  subst hz
  obtain ⟨F, hA, hq, C, hB⟩ := h
  exact (wnum_any w N p F bs n hA hn hl).mono fun e w' h => ⟨h.1, WrC.post hA hq C hB h⟩
theorem wc_set {W w : World} {N p q n : Nat} {V : Nat → Value} {bs : List Nat} (h : WrC W N p q V bs w) (hn : n < 18446744073709551616) (hl : bs.length ≤ 1000000) :
    Calls Try.prog 46 #[.pointer (some ⟨p, 0, none⟩), .int .u64 (n : Nat)] w fun e w' => e = .returned (.tuple #[]) ∧ WrC W N p q V (bs ++ lebL n) w' := by
  obtain ⟨F, hA, hq, C, hB⟩ := h
  exact (wset_any w N p F bs n hA hn hl).mono fun e w' h => ⟨h.1, WrC.post hA hq C hB h⟩
theorem won_new {W : World} {N : Nat} {w : World} (hB : Below N W w) (hN : N ≤ w.heap.size) :
    Calls Try.prog 44 #[] w fun e w' => ∃ p, e = .returned (.pointer (some ⟨p, 0, none⟩)) ∧ WrOn W N p [] w' :=
  (wnew_any w N hN).mono fun _ _ ⟨he, ⟨_, hA⟩, hb⟩ => ⟨_, he, ⟨_, ⟨_, hA⟩⟩, hB.trans (hb.mono hN)⟩

set_option maxRecDepth 20000 in
set_option maxHeartbeats 8000000 in
theorem tput_own {A : Nat → Prop} {W : World} {a : Option Addr} {cap n : Nat} {l : List Le} (h : LgAt A W a cap n l) (hn : n ≤ 10000) {L : List Nat} (hL : putG l = L) :
    Calls Try.prog 16 #[gV a n cap] W (OwnedPost W L) := by
  obtain ⟨g, hg⟩ : ∃ g, goodL l = g := ⟨_, rfl⟩
  obtain ⟨U, hU⟩ : ∃ U, U = W.alloc (.cells #[.slice a n cap] 29) := ⟨_, rfl⟩
  have C1 : Cel 1 U W.heap.size (gcE a n cap) := by rw [hU]; exact boxG W a n cap _
  have HB := Lib.hid (show Below W.heap.size W U from by rw [hU]; exact boxb W _)
  have c0 : U.cell? ⟨W.heap.size, 0, none⟩ = some (.slice a n cap) := C1.c 0 (by decide)
  have X1 := Lib.hid C1
  have CG := Lib.hid (tgood_any (h.below HB.out) hg)
  have G := Lib.hid (h.below HB.out)
  have LN := Lib.hid h.len
  have HG := Lib.hid hg
  have HL := Lib.hid hL
  have HU := Lib.hid hU.symm
  clear h hL hg hU C1
  go_enter Try.func16, Try.ntmps16
  go_upto_region 1 with fail
  rw [HU.out]
  go_wp2_with fail
  refine CG.out.mono ?_
  rintro e w1 ⟨rfl, hb⟩
  have B1 := Lib.hid hb
  clear hb CG
  cases g
  · obtain rfl : L = [] := by rw [← HL.out]; unfold putG; rw [HG.out]; rfl
    have BB := Lib.hid (HB.out.trans (B1.out.mono HB.out.size))
    go_wp2_with fail
    go_ret
    exact ⟨none, 0, rfl, World.ownsRow_nil .., BB.out⟩
  · have HE := Lib.hid (show lebL n ++ entsB l = L from by rw [← HL.out]; unfold putG; rw [HG.out, LN.out]; rfl)
    have GX := Lib.hid (goodL_iff.1 HG.out).1
    have NW := Lib.hid (won_new (W := U) (N := U.heap.size) B1.out B1.out.size)
    have hcn : IntKind.u64.wrap (n : Int) = (n : Int) := by rw [IntKind.wrap_u64]; omega
    clear HL HG c0 HU
    go_wp2_with fail
    refine NW.out.mono ?_
    rintro e w2 ⟨pw, rfl, hW⟩
    have c2 : w2.cell? ⟨W.heap.size, 0, none⟩ = some (.slice a n cap) := (X1.out.below hW.2).c 0 (by decide)
    have CN := Lib.hid (on_numz (z := (n : Int)) hW rfl (by omega) (by simp))
    clear hW NW B1
    go_wp2_with fail
    refine CN.out.mono ?_
    rintro e w3 ⟨rfl, hO⟩
    have O3 := Lib.hid (show WrOn U U.heap.size pw (lebL n ++ entsB (l.take 0)) w3 from by simpa [entsB] using hO)
    have c3 : w3.cell? ⟨W.heap.size, 0, none⟩ = some (.slice a n cap) := (X1.out.below hO.2).c 0 (by decide)
    clear hO CN hcn c2
    go_wp2_with fail
    clear c3
    go_loopw [19] (fun i wr => ∃ k : Nat, k ≤ n ∧ i = .int .i64 (k : Nat) ∧ WrOn U U.heap.size pw (lebL n ++ entsB (l.take k)) wr) (fun i _ => n - (intOf i).toNat)
    case atStart => exact ⟨0, Nat.zero_le _, rfl, O3.out⟩
    case round =>
      obtain ⟨k, hk, rfl, hO⟩ := hrel
      have O := Lib.hid hO
      clear hO O3
      by_cases hlt : k < n
      · have hkl : k < l.length := by rw [LN.out]; exact hlt
        have ET := Lib.hid (ents_take hkl)
        have ek : l.getD k default = l[k] := by rw [List.getD, List.getElem?_eq_getElem hkl]; rfl
        have GK := Lib.hid (goodX_iff.1 (show goodX (l.getD k default) = true from by rw [ek]; exact GX.out _ (List.getElem_mem _)))
        have OX := Lib.hid (G.out.okAt hlt)
        have LB := Lib.hid (show (lebL n ++ entsB (l.take k)).length ≤ 400000 from by
          have h1 := entsB_len (l := l.take k) (fun x hx => GX.out x (List.mem_of_mem_take hx)) (fun x hx => (G.out.ok x (List.mem_of_mem_take hx)).2.1)
          have h2 := lens n (by omega)
          rw [List.length_take] at h1
          rw [List.length_append]
          omega)
        obtain ⟨b, off, rfl, -, -, x0, x1, x2⟩ := (G.out.below O.out.2).cell hlt
        clear ek hkl
        generalize l.getD k default = x at *
        have i0 : (0 : Int) ≤ (k : Int) := by omega
        have i1 : (k : Int) < (n : Int) := by omega
        obtain ⟨fn, hfn⟩ : ∃ q : Nat, q = x.f.toNat := ⟨_, rfl⟩
        have hcf : IntKind.u64.wrap x.f = (fn : Int) := by have := GK.out; rw [IntKind.wrap_u64]; omega
        have hf16 := Lib.hid (show fn < 18446744073709551616 from by have := GK.out; omega)
        have l1 := Lib.hid (lens fn hf16.out)
        have HF := Lib.hid (show entB x = lebL fn ++ (lebL x.n ++ lebL x.t) from by rw [hfn]; rfl)
        clear hfn
        have l2 := Lib.hid (lens x.n OX.out.2.1)
        obtain ⟨V, hV⟩ : ∃ V, V = wr.alloc (.cells #[.int .i64 x.f, .int .u64 (x.n : Int), .int .u64 (x.t : Int)] 26) := ⟨_, rfl⟩
        have WC := Lib.hid (WrC.start O.out (show Below wr.heap.size wr V by rw [hV]; exact boxb wr _) (V := xcE x) (by rw [hV]; exact boxX wr x _))
        have z0 : V.cell? ⟨wr.heap.size, 0, none⟩ = some (.int .i64 x.f) := WC.out.cel.c 0 (by decide)
        have C1 := Lib.hid (wc_num (n := fn) (z := (fn : Int)) WC.out rfl hf16.out (by have := LB.out; omega))
        have HV := Lib.hid hV.symm
        clear hV
        go_upto_region 8 with fail
        rw [HV.out]
        go_wp2_with fail
        refine C1.out.mono ?_
        rintro e w4 ⟨rfl, h4⟩
        have O4 := Lib.hid h4
        have z1 : w4.cell? ⟨wr.heap.size, 1, none⟩ = some (.int .u64 (x.n : Int)) := h4.cel.c 1 (by decide)
        have C2 := Lib.hid (wc_num (n := x.n) (z := (x.n : Int)) h4 rfl OX.out.2.1 (by have := LB.out; have := l1.out; rw [List.length_append]; omega))
        clear h4 z0 C1 O x0 x1 x2 HV
        go_wp2_with fail
        refine C2.out.mono ?_
        rintro e w5 ⟨rfl, h5⟩
        have z2 : w5.cell? ⟨wr.heap.size, 2, none⟩ = some (.int .u64 (x.t : Int)) := h5.cel.c 2 (by decide)
        have C3 := Lib.hid (wc_set (n := x.t) h5 OX.out.2.2 (by have := LB.out; have := l1.out; have := l2.out; rw [List.length_append, List.length_append]; omega))
        clear h5 z1 C2 O4
        go_wp2_with (go_at_call 46; refine C3.out.mono ?_; rintro e w6 ⟨rfl, h6⟩; have O6 := Lib.hid h6.wr; clear h6)
        go_roundw
        case rel => exact ⟨k + 1, by omega, by go_num, by rw [ET.out, HF.out]; have := O6.out; simpa [List.append_assoc] using this⟩
        case measure => simp only [intOf]; omega
      · obtain rfl : k = n := by omega
        have dk : decide ((k : Int) < (k : Int)) = false := decide_eq_false (by omega)
        have P := O.out
        rw [List.take_of_length_le (by rw [LN.out]; exact Nat.le_refl _), HE.out] at P
        have LL := Lib.hid (show L.length ≤ 2000000 from by
          rw [← HE.out]
          have h1 := entsB_len (l := l) (fun x hx => GX.out x hx) (fun x hx => (G.out.ok x hx).2.1)
          have h2 := lens k (by omega)
          rw [LN.out] at h1
          rw [List.length_append]
          omega)
        have DC := Lib.hid (on_downed P LL.out)
        have PS := Lib.hid (show U.heap.size ≤ wr.heap.size from P.2.size)
        have PB := Lib.hid (show Below U.heap.size U wr from P.2)
        clear P O
        go_wp2_with (go_at_call 47; refine DC.out.mono ?_; rintro e w6 ⟨sa, sc, rfl, hs, hb6⟩; have R := Lib.hid (And.intro (own_mono hs (Nat.le_trans HB.out.size PS.out)) (HB.out.trans ((PB.out.trans (hb6.mono PS.out)).mono HB.out.size))); clear hs hb6)
        go_ret
        exact ⟨_, _, rfl, R.out.1, R.out.2⟩

theorem putG_lt (l : List Le) : ∀ x ∈ putG l, x < 256 := by
  intro x hx
  unfold putG at hx
  split at hx
  · rcases List.mem_append.1 hx with hx | hx
    · exact lebL_lt _ x hx
    · obtain ⟨y, -, hy⟩ := List.mem_flatMap.1 hx
      unfold entB at hy
      rcases List.mem_append.1 hy with hy | hy
      · exact lebL_lt _ x hy
      · rcases List.mem_append.1 hy with hy | hy
        · exact lebL_lt _ x hy
        · exact lebL_lt _ x hy
  · cases hx
theorem tput_any {A : Nat → Prop} {W : World} {a : Option Addr} {cap n : Nat} {l : List Le} (h : LgAt A W a cap n l) (hn : n ≤ 10000) {L : List Nat} (hL : putG l = L) :
    Calls Try.prog 16 #[gV a n cap] W fun e w' => ∃ a' c', e = .returned (.slice a' L.length c') ∧ SlAt bV 256 w' a' c' L ∧ Below W.heap.size W w' ∧ ∀ ad, a' = some ad → W.heap.size ≤ ad.block :=
  (tput_own h hn hL).mono fun e w' ⟨a', c', he, ho, hb⟩ => by
    obtain ⟨_, a2, c2, e2, hs⟩ := own_sl ho (by rw [← hL]; exact putG_lt l)
    cases e2
    exact ⟨a', c', he, hs, hb, fun ad e => (ho.lt ad.block (by subst e; rfl)).1⟩

end Go.Proofs.Ytbmpeadoicjpnaa

/-
  trim.read: an entry is read.
-/
namespace Go.Proofs.Ytbmpeadoicjpnaa
open Go.RowKit Go.Sort

theorem set16 (s : Option (List Nat)) : setR 65535 s = numR 65535 s := by
  cases s with
  | none => rfl
  | some B =>
    have hd : ∀ most, numR most (some B) = if (getN B).2 = 0 ∨ most < (getN B).1 then ((0 : Nat), (none : Option (List Nat))) else ((getN B).1, some (B.drop (getN B).2)) := fun _ => rfl
    unfold setR
    rw [hd, hd]
    have hlt := getN_lt B
    by_cases h0 : (getN B).2 = 0
    · rw [if_pos (Or.inl h0), if_pos (Or.inl h0)]
      simp
    · have e1 : ¬ ((getN B).2 = 0 ∨ 18446744073709551615 < (getN B).1) := fun h => by omega
      rw [if_neg e1]
      by_cases h1 : 65535 < (getN B).1
      · rw [if_pos (Or.inr h1), if_neg]
        rw [show (18446744073709551615 - 65535 : Nat) = 18446744073709486080 by decide, and_high _ hlt]
        exact fun h2 => absurd h2 (by omega)
      · have e2 : ¬ ((getN B).2 = 0 ∨ 65535 < (getN B).1) := fun h => h.elim h0 h1
        rw [if_neg e2]
        exact if_pos ((and_high _ hlt).2 (by omega))

theorem keep_new {F : Nat → Prop} {W w : World} (h : Keep F W w) {q : Nat} (hq : W.heap.size ≤ q) (i : Nat) (v : Value) : Keep F W (w.setCell ⟨q, i, none⟩ v) := by
  have h2 := (Keep.refl (fun k => k = q) w).put i v
  exact ⟨h2.os.trans h.os, h2.tape.trans h.tape, h2.output.trans h.output, Nat.le_trans h.size h2.size, fun k hk hn => (h2.block k (Nat.lt_of_lt_of_le hk h.size) (by omega)).trans (h.block k hk hn)⟩

set_option maxRecDepth 20000 in
set_option maxHeartbeats 8000000 in
theorem tread_any {W : World} {p : Nat} {S : Nat → Prop} {s : Option (List Nat)} (hA : RdAt W p S s) (hp : p < W.heap.size) (hS : ∀ k, S k → k < W.heap.size) {x : Le} {s' : Option (List Nat)} (hx : entR s = (x, s')) :
    Calls Try.prog 42 #[.pointer (some ⟨p, 0, none⟩)] W (RdPost W p S (xV x) s') := by
  obtain ⟨f, hf⟩ : ∃ q, q = (numR 15 s).1 := ⟨_, rfl⟩
  obtain ⟨s1, hs1⟩ : ∃ q, q = (numR 15 s).2 := ⟨_, rfl⟩
  obtain ⟨m1, hm1⟩ : ∃ q, q = (numR 18446744073709551615 s1).1 := ⟨_, rfl⟩
  obtain ⟨s2, hs2⟩ : ∃ q, q = (numR 18446744073709551615 s1).2 := ⟨_, rfl⟩
  obtain ⟨t1, ht1⟩ : ∃ q, q = (numR 65535 s2).1 := ⟨_, rfl⟩
  obtain ⟨s3, hs3⟩ : ∃ q, q = (numR 65535 s2).2 := ⟨_, rfl⟩
  have F15 := Lib.hid (show f ≤ 15 from by rw [hf]; exact numR_le _ _)
  have ex : (x, s') = (⟨(f : Int), m1, t1⟩, s3) := by rw [← hx, hs3, ht1, hs2, hm1, hs1, hf]; rfl
  injection ex with ex1 ex2
  subst ex1 ex2
  obtain ⟨U, hU⟩ : ∃ U, U = (W.alloc (.cells #[.int .i64 0, .int .u64 0, .int .u64 0] 26)).alloc (.cells #[.int .i64 0, .int .u64 0, .int .u64 0] 26) := ⟨_, rfl⟩
  have bU : Below W.heap.size W U := by rw [hU]; exact below_alloc (boxb W _) _
  have C1 : Cel 3 U W.heap.size (xcE ⟨0, 0, 0⟩) := by rw [hU]; exact (boxX W ⟨0, 0, 0⟩ _).below (boxb _ _)
  have C2 : Cel 3 U (W.heap.size + 1) (xcE ⟨0, 0, 0⟩) := by
    have := boxX (W.alloc (.cells #[.int .i64 0, .int .u64 0, .int .u64 0] 26)) ⟨0, 0, 0⟩ 26
    rw [show (W.alloc (.cells #[.int .i64 0, .int .u64 0, .int .u64 0] 26)).heap.size = W.heap.size + 1 by simp] at this
    rw [hU]
    exact this
  have CA := Lib.hid (rnum_any U p S s 15 (hA.below bU))
  rw [← hf, ← hs1] at CA
  have CB := Lib.hid (fun (w : World) (h : RdAt w p S s1) => rnum_any w p S s1 18446744073709551615 h)
  rw [← hm1, ← hs2] at CB
  have CC := Lib.hid (fun (w : World) (h : RdAt w p S s2) => rset_any w p S s2 65535 h (by decide))
  rw [set16, ← ht1, ← hs3] at CC
  have hcv : IntKind.i64.wrap (f : Int) = (f : Int) := by have := F15.out; rw [IntKind.wrap_i64]; omega
  have X1 := Lib.hid C1
  have X2 := Lib.hid C2
  have KU := Lib.hid (Keep.ofBelow (F := fun k => k = p) bU)
  have HS := Lib.hid hS
  have HU := Lib.hid hU.symm
  clear hx hf hs1 hm1 hs2 ht1 hs3 hA bU hU C1 C2 hS
  go_enter Try.func42, Try.ntmps42
  go_upto_region 2 with fail
  rw [HU.out]
  clear HU
  go_wp2_with fail
  refine CA.out.mono ?_
  rintro e w1 ⟨rfl, hr, hk⟩
  have c1 := X2.out.keep hk (by omega)
  have d1 := X1.out.keep hk (by omega)
  have k1 := (Keep.refl (fun k => k = W.heap.size + 1) w1).put 0 (.int .i64 (f : Int))
  have a0 : w1.cell? ⟨W.heap.size + 1, 0, none⟩ = some (.int .i64 0) := c1.c 0 (by decide)
  have a0f := c1.fz 0
  have X3 := Lib.hid (c1.put 0 (.int .i64 (f : Int)))
  have X4 := Lib.hid (d1.keep k1 (by omega))
  have r2 := hr.keep k1 (by omega) (fun k h => by have := HS.out k h; omega)
  have K2 := Lib.hid (keep_new (KU.out.trans hk (fun _ _ e => e)) (Nat.le_succ _) 0 (.int .i64 (f : Int)))
  have C2 := Lib.hid (CB.out _ r2)
  clear hr hk c1 d1 k1 r2 X1 X2 KU CA CB
  go_upto_region 3 with fail
  generalize w1.setCell ⟨W.heap.size + 1, 0, none⟩ (.int .i64 (f : Int)) = w2 at *
  clear a0 a0f
  go_wp2_with fail
  refine C2.out.mono ?_
  rintro e w3 ⟨rfl, hr, hk⟩
  have c1 := X3.out.keep hk (by omega)
  have d1 := X4.out.keep hk (by omega)
  have k1 := (Keep.refl (fun k => k = W.heap.size + 1) w3).put 1 (.int .u64 (m1 : Int))
  have a0 : w3.cell? ⟨W.heap.size + 1, 1, none⟩ = some (.int .u64 0) := c1.c 1 (by decide)
  have a0f := c1.fz 1
  have X5 := Lib.hid (c1.put 1 (.int .u64 (m1 : Int)))
  have X6 := Lib.hid (d1.keep k1 (by omega))
  have r2 := hr.keep k1 (by omega) (fun k h => by have := HS.out k h; omega)
  have K4 := Lib.hid (keep_new (K2.out.trans hk (fun _ _ e => e)) (Nat.le_succ _) 1 (.int .u64 (m1 : Int)))
  have C3 := Lib.hid (CC.out _ r2)
  clear hr hk c1 d1 k1 r2 X3 X4 K2 C2 CC
  go_upto_region 4 with fail
  generalize w3.setCell ⟨W.heap.size + 1, 1, none⟩ (.int .u64 (m1 : Int)) = w4 at *
  clear a0 a0f
  go_wp2_with (go_at_call 56; refine (procs_is _).mono ?_; rintro e w' ⟨rfl, rfl⟩)
  refine C3.out.mono ?_
  rintro e w5 ⟨rfl, hr, hk⟩
  have c1 := X5.out.keep hk (by omega)
  have d1 := X6.out.keep hk (by omega)
  have k1 := (Keep.refl (fun k => k = W.heap.size + 1) w5).put 2 (.int .u64 (t1 : Int))
  have a0 : w5.cell? ⟨W.heap.size + 1, 2, none⟩ = some (.int .u64 0) := c1.c 2 (by decide)
  have a0f := c1.fz 2
  have X7 := c1.put 2 (.int .u64 (t1 : Int))
  have X8 := d1.keep k1 (by omega)
  have r2 := hr.keep k1 (by omega) (fun k h => by have := HS.out k h; omega)
  have K6 := keep_new (K4.out.trans hk (fun _ _ e => e)) (Nat.le_succ _) 2 (.int .u64 (t1 : Int))
  clear hr hk c1 d1 k1 X5 X6 K4 C3
  go_upto_region 5 with fail
  generalize w5.setCell ⟨W.heap.size + 1, 2, none⟩ (.int .u64 (t1 : Int)) = w6 at *
  clear a0 a0f
  have y0 : w6.cell? ⟨W.heap.size + 1, 0, none⟩ = some (.int .i64 (f : Int)) := X7.c 0 (by decide)
  have y1 : w6.cell? ⟨W.heap.size + 1, 1, none⟩ = some (.int .u64 (m1 : Int)) := X7.c 1 (by decide)
  have y2 : w6.cell? ⟨W.heap.size + 1, 2, none⟩ = some (.int .u64 (t1 : Int)) := X7.c 2 (by decide)
  have Z1 := X8.put 0 (.int .i64 (f : Int))
  have Z2 := Z1.put 1 (.int .u64 (m1 : Int))
  have Z3 := Z2.put 2 (.int .u64 (t1 : Int))
  have q0 : w6.cell? ⟨W.heap.size, 0, none⟩ = some (.int .i64 0) := X8.c 0 (by decide)
  have q0f := X8.fz 0
  have q1 : (w6.setCell ⟨W.heap.size, 0, none⟩ (.int .i64 (f : Int))).cell? ⟨W.heap.size, 1, none⟩ = some (.int .u64 0) := Z1.c 1 (by decide)
  have q1f := Z1.fz 1
  have q2 : ((w6.setCell ⟨W.heap.size, 0, none⟩ (.int .i64 (f : Int))).setCell ⟨W.heap.size, 1, none⟩ (.int .u64 (m1 : Int))).cell? ⟨W.heap.size, 2, none⟩ = some (.int .u64 0) := Z2.c 2 (by decide)
  have q2f := Z2.fz 2
  have v0 : (((w6.setCell ⟨W.heap.size, 0, none⟩ (.int .i64 (f : Int))).setCell ⟨W.heap.size, 1, none⟩ (.int .u64 (m1 : Int))).setCell ⟨W.heap.size, 2, none⟩ (.int .u64 (t1 : Int))).cell? ⟨W.heap.size, 0, none⟩ = some (.int .i64 (f : Int)) := Z3.c 0 (by decide)
  have v1 : (((w6.setCell ⟨W.heap.size, 0, none⟩ (.int .i64 (f : Int))).setCell ⟨W.heap.size, 1, none⟩ (.int .u64 (m1 : Int))).setCell ⟨W.heap.size, 2, none⟩ (.int .u64 (t1 : Int))).cell? ⟨W.heap.size, 1, none⟩ = some (.int .u64 (m1 : Int)) := Z3.c 1 (by decide)
  have v2 : (((w6.setCell ⟨W.heap.size, 0, none⟩ (.int .i64 (f : Int))).setCell ⟨W.heap.size, 1, none⟩ (.int .u64 (m1 : Int))).setCell ⟨W.heap.size, 2, none⟩ (.int .u64 (t1 : Int))).cell? ⟨W.heap.size, 2, none⟩ = some (.int .u64 (t1 : Int)) := Z3.c 2 (by decide)
  have l1 := (Keep.refl (fun k => k = W.heap.size) w6).put 0 (.int .i64 (f : Int))
  have l2 := l1.put 1 (.int .u64 (m1 : Int))
  have l3 := l2.put 2 (.int .u64 (t1 : Int))
  have R := Lib.hid (And.intro (r2.keep l3 (by omega) (fun k h => by have := HS.out k h; omega)) (keep_new (keep_new (keep_new K6 (Nat.le_refl _) 0 (.int .i64 (f : Int))) (Nat.le_refl _) 1 (.int .u64 (m1 : Int))) (Nat.le_refl _) 2 (.int .u64 (t1 : Int))))
  clear X7 X8 Z1 Z2 Z3 l1 l2 l3 r2 K6
  go_wp2_with fail
  refine bodyPost_ret (v := .agg #[.int .i64 (f : Int), .int .u64 (m1 : Int), .int .u64 (t1 : Int)]) (by simp [results, Try.results42, go_sem, v0, v1, v2]) rfl ?_
  exact ⟨rfl, R.out⟩

end Go.Proofs.Ytbmpeadoicjpnaa

/-
  trim.Get.
-/
namespace Go.Proofs.Ytbmpeadoicjpnaa
open Go.RowKit Go.Sort

theorem leb_ge1 (n : Nat) : 1 ≤ (lebL n).length := by
  by_cases h : n < 128
  · rw [lebL_lo h, List.length_singleton]; exact Nat.le_refl _
  · rw [lebL_hi h, List.length_cons]; omega
theorem entsB_ge (l : List Le) : 3 * l.length ≤ (entsB l).length := by
  induction l with
  | nil => decide
  | cons x l ih =>
    have h1 := leb_ge1 x.f.toNat
    have h2 := leb_ge1 x.n
    have h3 := leb_ge1 x.t
    rw [entsB_cons, List.length_append, List.length_cons]
    unfold entB
    rw [List.length_append, List.length_append]
    omega
/-- As many as have room, are asked for. -/
theorem get_room {b : List Nat} (hb : ∀ x ∈ b, x < 256) (hl : b.length ≤ 1000000) {r : Nat × Option (List Nat)} (hr : numR (b.length / 3) (some b) = r) :
    getG b = if endR (entsR r.1 r.2).2 && goodL (entsR r.1 r.2).1 then some (entsR r.1 r.2).1 else none := by
  subst hr
  have hd : ∀ most, numR most (some b) = if (getN b).2 = 0 ∨ most < (getN b).1 then ((0 : Nat), (none : Option (List Nat))) else ((getN b).1, some (b.drop (getN b).2)) := fun _ => rfl
  by_cases h0 : (getN b).2 = 0
  · have e : ∀ most, numR most (some b) = (0, none) := fun most => by rw [hd, if_pos (Or.inl h0)]
    unfold getG
    rw [e, e]
  · by_cases h1 : b.length / 3 < (getN b).1
    · have e : numR (b.length / 3) (some b) = (0, none) := by rw [hd, if_pos (Or.inr h1)]
      rw [e]
      cases hg : getG b with
      | none => rfl
      | some l =>
        obtain ⟨g1, g2, g3, g4⟩ := get_put hb hg
        have e2 : numR 4294967296 (some b) = (l.length, some (entsB l)) := by
          rw [← g2]
          unfold putG
          rw [if_pos g1]
          exact num_back (by omega) g4 _
        rw [hd, if_neg (fun h => by
          rcases h with h | h
          · exact h0 h
          · rw [if_pos (Or.inr h)] at e2; injection e2 with _ e5; cases e5)] at e2
        injection e2 with e3 e4
        have h3 := entsB_ge l
        have h4 := leb_ge1 l.length
        have h5 : b.length = (lebL l.length).length + (entsB l).length := by rw [← g2]; unfold putG; rw [if_pos g1, List.length_append]
        omega
    · have e : ∀ most, b.length / 3 ≤ most → numR most (some b) = ((getN b).1, some (b.drop (getN b).2)) := fun most hm => by
        rw [hd, if_neg (fun h => by
          rcases h with h | h
          · exact h0 h
          · omega)]
      unfold getG
      rw [e 4294967296 (by omega), e (b.length / 3) (Nat.le_refl _)]

/-- A log under way: the reader, the variable, the result's block. -/
structure GtS (W : World) (p pg B : Nat) (S : Nat → Prop) (wr : World) (s : Option (List Nat)) (L : List Le) : Prop where
  rd : RdAt wr p S s
  ex : ∃ sa sc, Cel 1 wr pg (gcE sa L.length sc) ∧ OwnLg 26 B wr (.slice sa L.length sc) L
  res : Cel 1 wr W.heap.size (gcE none 0 0)
  b : Below W.heap.size W wr
  h1 : W.heap.size < p
  h2 : p < pg
  h3 : pg < B
  h4 : B ≤ wr.heap.size
  hS : ∀ k, S k → W.heap.size < k ∧ k < p
section
variable {W wr w' : World} {p pg B : Nat} {S : Nat → Prop} {s s' : Option (List Nat)} {L : List Le}
theorem GtS.num (h : GtS W p pg B S wr s L) (hr : RdAt w' p S s') (hk : Keep (fun k => k = p) wr w') : GtS W p pg B S w' s' L := by
  have a1 := h.h1
  have a2 := h.h2
  have a3 := h.h3
  obtain ⟨sa, sc, h5, h6⟩ := h.ex
  exact ⟨hr, ⟨sa, sc, h5.keep hk (by omega), h6.keep hk (fun k _ _ => by omega)⟩, h.res.keep hk (by omega), h.b.trans (hk.below h.b.size (fun k e => by omega)), h.h1, h.h2, h.h3, Nat.le_trans h.h4 hk.size, h.hS⟩
theorem GtS.below (h : GtS W p pg B S wr s L) (hb : Below wr.heap.size wr w') : GtS W p pg B S w' s L := by
  obtain ⟨sa, sc, h5, h6⟩ := h.ex
  exact ⟨h.rd.below hb, ⟨sa, sc, h5.below hb, h6.below hb⟩, h.res.below hb, h.b.trans (hb.mono h.b.size), h.h1, h.h2, h.h3, Nat.le_trans h.h4 hb.size, h.hS⟩
theorem GtS.push {m : Nat} {sa a3 : Option Addr} {sc c3 : Nat} {x : Le} (h : GtS W p pg B S wr s L) (hm : m = L.length) (P : Cel 1 wr pg (gcE sa m sc)) (O : OwnLg 26 B wr (.slice sa m sc) L) (hx : OkX x) (hown : w'.ownsRow B 26 3 (.slice a3 (m + 1) c3) (m + 1) (lgC L ++ xC x)) (hgr : wr.grownBy w' (Value.slice sa m sc).ownBlock) :
    w'.cell? ⟨pg, 0, none⟩ = some (.slice sa m sc) ∧ w'.frozen? ⟨pg, 0, none⟩ = false ∧ GtS W p pg B S (w'.setCell ⟨pg, 0, none⟩ (.slice a3 (m + 1) c3)) s (L ++ [x]) := by
  subst hm
  have hk : Keep (fun k => B ≤ k) wr w' := (Keep.refl _ wr).grown hgr (fun k e => Or.inl (O.own.lt k e).1)
  have a1 := h.h1
  have a2 := h.h2
  have a3' := h.h3
  have P2 := P.keep hk (by omega)
  have k2 := (Keep.refl (fun k => k = pg) w').put 0 (.slice a3 (L.length + 1) c3)
  have O2 : OwnLg 26 B w' (.slice a3 (L.length + 1) c3) (L ++ [x]) := O.push hx hown
  refine ⟨P2.c 0 (by decide), P2.fz 0, ⟨?_, ⟨a3, c3, ?_, ?_⟩, ?_, ?_, a1, a2, a3', ?_, h.hS⟩⟩
  · exact (h.rd.keep hk (by omega) (fun k f => by have := h.hS k f; omega)).keep k2 (by omega) (fun k f => by have := h.hS k f; omega)
  · rw [List.length_append]
    exact (P2.put 0 _).conv (fun o ho => by rcases (show o = 0 by omega) with rfl; rfl)
  · rw [List.length_append]
    exact O2.put a3' 0 _
  · exact (h.res.keep hk (by omega)).keep k2 (by omega)
  · exact (h.b.trans (hk.below h.b.size (fun k e => by omega))).setCell (by exact (by omega : W.heap.size ≤ pg)) _
  · exact Nat.le_trans h.h4 (Nat.le_trans hk.size k2.size)
end

theorem own_of {T : TypeId} {B : Nat} {w : World} {a : Option Addr} {n c : Nat} {l : List Le} (h : OwnLg T B w (.slice a n c) l) (hl : l.length = n) : w.ownsRow B T 3 (.slice a n c) n (lgC l) := by
  have := h.own
  rw [hl] at this
  exact this
/-- What is read: the log, or none. -/
def GtPost (W : World) (o : Option (List Le)) (e : Ending) (w' : World) : Prop := match o with
  | some m => ∃ a' c', e = .returned (.tuple #[gV a' m.length c', .bool true]) ∧ OwnLg 26 W.heap.size w' (.slice a' m.length c') m ∧ Below W.heap.size W w'
  | none => e = .returned (.tuple #[gV none 0 0, .bool false]) ∧ Below W.heap.size W w'

set_option maxRecDepth 20000 in
set_option maxHeartbeats 16000000 in
theorem tget_any {W : World} {ao : Option Addr} {cap len : Nat} {bs : List Nat} (hs : SlAt bV 256 W ao cap bs) (hlen : bs.length = len) (hl : len ≤ 1000000) {o : Option (List Le)} (ho : getG bs = o) :
    Calls Try.prog 15 #[.slice ao len cap] W (GtPost W o) := by
  obtain ⟨iT, hi0, hz0, hz1, hz2⟩ := info_x Try.infoT
  have hbs := hs.lt
  obtain ⟨n, hn⟩ : ∃ n, n = (numR (len / 3) (some bs)).1 := ⟨_, rfl⟩
  obtain ⟨s0, hs0⟩ : ∃ s, s = (numR (len / 3) (some bs)).2 := ⟨_, rfl⟩
  have NB := Lib.hid (show n ≤ 1000000 from by rw [hn]; exact Nat.le_trans (numR_le _ _) (by omega))
  have HO := Lib.hid (show (if endR (entsR n s0).2 && goodL (entsR n s0).1 then some (entsR n s0).1 else none) = o from by
    rw [hn, hs0, ← ho]
    rw [← hlen] at hl ⊢
    exact (get_room hbs hl rfl).symm)
  obtain ⟨U, hU⟩ : ∃ U, U = W.alloc (.cells #[.slice none 0 0] 29) := ⟨_, rfl⟩
  have bU : Below W.heap.size W U := by rw [hU]; exact boxb W _
  have C0 := Lib.hid (show Cel 1 U W.heap.size (gcE none 0 0) by rw [hU]; exact boxG W none 0 0 _)
  have HB := Lib.hid bU
  have CN := Lib.hid (on_rnew (W := U) (N := U.heap.size) (w := U) (Below.refl _ _) (Nat.le_refl _) (hs.below bU) hlen (by omega))
  have HUs := Lib.hid (show U.heap.size = W.heap.size + 1 by rw [hU]; simp)
  have HU := Lib.hid hU.symm
  have HNS := Lib.hid (And.intro hn hs0)
  clear hU bU hs ho hn hs0 hbs
  go_enter Try.func15, Try.ntmps15
  go_upto_region 1 with fail
  rw [HU.out]
  clear HU
  go_wp2_with fail
  refine CN.out.mono ?_
  rintro e w1 ⟨p, S, rfl, hr, hb, hp, hS⟩
  obtain ⟨V, hV⟩ : ∃ V, V = w1.alloc (.cells #[.slice none 0 0] 29) := ⟨_, rfl⟩
  have bV : Below w1.heap.size w1 V := by rw [hV]; exact boxb w1 _
  have hpw : p < w1.heap.size := by obtain ⟨⟨a, c, hv⟩, -⟩ := hr; exact hv.inP
  have PV : Cel 1 V w1.heap.size (gcE none 0 0) := by rw [hV]; exact boxG w1 none 0 0 _
  have S0 := Lib.hid (show GtS W p w1.heap.size V.heap.size S V (some bs) [] from
    ⟨hr.1.below bV, ⟨none, 0, PV, OwnLg.nil _⟩, (C0.out.below hb).below bV, HB.out.trans ((hb.trans (bV.mono hb.size)).mono HB.out.size), by have := HUs.out; omega, hpw, PV.lt, Nat.le_refl _, fun k f => by have := hS k f; have := HUs.out; omega⟩)
  have HV := Lib.hid hV.symm
  have CM := Lib.hid (rnum_any V p S (some bs) (len / 3) S0.out.rd)
  rw [← HNS.out.1, ← HNS.out.2] at CM
  have q1 : ((len : Int)).tdiv 3 = ((len / 3 : Nat) : Int) := by rw [Int.tdiv_eq_ediv_of_nonneg (by omega)]; omega
  have q2 : (len : Int) / 3 = ((len / 3 : Nat) : Int) := by omega
  have q3 : IntKind.u64.wrap ((len / 3 : Nat) : Int) = ((len / 3 : Nat) : Int) := by rw [IntKind.wrap_u64]; omega
  have q4 : IntKind.i64.wrap ((len / 3 : Nat) : Int) = ((len / 3 : Nat) : Int) := by rw [IntKind.wrap_i64]; omega
  generalize len / 3 = l3 at *
  clear hr hb hp hS hV bV hpw PV CN C0
  go_upto_region 3 with fail
  rw [HV.out]
  clear HV
  generalize w1.heap.size = pg at *
  generalize V.heap.size = B at *
  go_wp2_with fail
  refine CM.out.mono ?_
  rintro e w2 ⟨rfl, hr2, hk2⟩
  have S2 := Lib.hid (S0.out.num hr2 hk2)
  clear hr2 hk2 S0 CM q1 q2 q3 q4
  go_wp2_with fail
  go_loopw [14] (fun i wr => ∃ k : Nat, k ≤ n ∧ i = .int .u64 (k : Nat) ∧ GtS W p pg B S wr (entsR k s0).2 (entsR k s0).1) (fun i _ => n - (intOf i).toNat)
  case atStart => exact ⟨0, Nat.zero_le _, rfl, S2.out⟩
  case round =>
    obtain ⟨k, hk, rfl, hG⟩ := hrel
    have hll := entsR_len k s0
    have G := Lib.hid hG
    clear hG S2
    have hk32 := NB.out
    by_cases hlt : k < n
    · have d0 : decide ((k : Int) < (n : Int)) = true := decide_eq_true (by omega)
      have d0' : decide (k < n) = true := decide_eq_true hlt
      obtain ⟨sk, hsk⟩ : ∃ q, q = (entsR k s0).2 := ⟨_, rfl⟩
      obtain ⟨Lk, hLk⟩ : ∃ q, q = (entsR k s0).1 := ⟨_, rfl⟩
      obtain ⟨x, hx⟩ : ∃ x, x = (entR sk).1 := ⟨_, rfl⟩
      obtain ⟨s', hs'⟩ : ∃ q, q = (entR sk).2 := ⟨_, rfl⟩
      have ER := Lib.hid (show (entsR (k + 1) s0).1 = Lk ++ [x] ∧ (entsR (k + 1) s0).2 = s' from by
        have e2 : entsR (k + 1) s0 = ((entsR k s0).1 ++ [(entR (entsR k s0).2).1], (entR (entsR k s0).2).2) := rfl
        rw [e2, hLk, hx, hs', hsk]
        exact ⟨rfl, rfl⟩)
      have F15 : (numR 15 sk).1 ≤ 15 := numR_le _ _
      have OX := Lib.hid (show OkX x from by
        rw [hx]
        exact ⟨⟨by show (-9223372036854775808 : Int) ≤ ((numR 15 sk).1 : Int); omega, by show (((numR 15 sk).1 : Nat) : Int) ≤ 9223372036854775807; omega⟩, numR_lt _ _, numR_lt _ _⟩)
      rw [← hsk, ← hLk] at G
      rw [← hLk] at hll
      have hpw : p < wr.heap.size := by have h1 := G.out.h2; have h2 := G.out.h3; have h3 := G.out.h4; omega
      have TR := Lib.hid (tread_any (G.out.rd.below (drew_below wr)) hpw (fun j f => Nat.lt_trans (G.out.hS j f).2 hpw) (x := x) (s' := s') (by rw [hx, hs']))
      have HX := Lib.hid (show xV x = .agg #[.int .i64 x.f, .int .u64 (x.n : Int), .int .u64 (x.t : Int)] from rfl)
      rw [HX.out] at TR
      obtain ⟨sa, sc, hP, hO⟩ := G.out.ex
      rw [hll] at hP hO
      have p0 : wr.drew.cell? ⟨pg, 0, none⟩ = some (.slice sa k sc) := hP.c 0 (by decide)
      have hadd : IntKind.u64.wrap ((k : Int) + 1) = (k : Int) + 1 := by rw [IntKind.wrap_u64]; omega
      have HP := Lib.hid hP
      have HOO := Lib.hid hO
      have HLL := Lib.hid hll
      clear hsk hLk hx hs' F15 HX hP hO hll
      go_wp2_with fail
      go_region_law (first
        | (refine step_append_at rfl (.tmp 17) (.tmp 20) 27 rfl B 26 iT (.agg #[.int .i64 0, .int .u64 0, .int .u64 0]) 3 24 Try.underlying27 hi0 hz0 hz1 hz2 rfl (by decide) (.slice sa k sc) k (lgC Lk) (by simp [Act.eval]) OO.out (some ⟨w3.heap.size, 0, none⟩) 1 1 (xC x) (by simp [Act.eval]) rfl (fun e => by cases e) NW.out (xC_one x) (by unfold maxLen; omega) (by omega) BS.out ?_; intro a3 c3 w4 hown2 hgr2 hat2; obtain ⟨y1, y2, y3⟩ := GtS.push S4.out HLL.out.symm P4.out OR.out OX.out hown2 hgr2; have S5 := Lib.hid y3; clear hown2 hgr2 hat2 y3)
        | (go_simp; go_at_call 42; refine TR.out.mono ?_; rintro e w3 ⟨rfl, hr3, hk3⟩; have S3 := Lib.hid ((G.out.below (drew_below wr)).num hr3 hk3); have P3 := Lib.hid (HP.out.drew.keep hk3 (by have := G.out.h2; omega)); have O3 := Lib.hid ((HOO.out.below (drew_below wr)).keep hk3 (fun j _ _ => by have := G.out.h2; have := G.out.h3; omega)); have S4 := Lib.hid (S3.out.below (boxb w3 (.cells #[.int .i64 x.f, .int .u64 (x.n : Int), .int .u64 (x.t : Int)] 26))); have P4 := Lib.hid (P3.out.below (boxb w3 (.cells #[.int .i64 x.f, .int .u64 (x.n : Int), .int .u64 (x.t : Int)] 26))); have OR := Lib.hid (O3.out.below (boxb w3 (.cells #[.int .i64 x.f, .int .u64 (x.n : Int), .int .u64 (x.t : Int)] 26))); have OO := Lib.hid (own_of OR.out HLL.out); have NW := Lib.hid (ent_cells w3 x 26); have BS := Lib.hid S4.out.h4; have p1 : w3.cell? ⟨pg, 0, none⟩ = some (.slice sa k sc) := P3.out.c 0 (by decide); have p2 : (w3.alloc (.cells #[.int .i64 x.f, .int .u64 (x.n : Int), .int .u64 (x.t : Int)] 26)).cell? ⟨pg, 0, none⟩ = some (.slice sa k sc) := P4.out.c 0 (by decide); clear hr3 hk3))
      all_goals
        try go_simp
        go_wp2_with fail
        go_roundw
        case rel => exact ⟨k + 1, by omega, by go_num, by rw [ER.out.1, ER.out.2]; exact S5.out⟩
        case measure => simp only [intOf]; omega
    · obtain rfl : k = n := by omega
      have d0 : decide ((k : Int) < (k : Int)) = false := decide_eq_false (by omega)
      obtain ⟨sa, sc, hP, hO⟩ := G.out.ex
      rw [hll] at hP hO
      have CE := Lib.hid (rend_any wr p S _ G.out.rd)
      obtain ⟨b9, hb9⟩ : ∃ b, b = endR (entsR k s0).2 := ⟨_, rfl⟩
      rw [← hb9] at CE
      have HE := Lib.hid hb9.symm
      obtain ⟨Lk, hLk⟩ : ∃ q, q = (entsR k s0).1 := ⟨_, rfl⟩
      rw [← hLk] at hll hO HO
      have HLL := Lib.hid hll
      have LA := Lib.hid (hO.at hll)
      have OH := Lib.hid hO
      have R0 := Lib.hid G.out.res
      have r0 : wr.cell? ⟨W.heap.size, 0, none⟩ = some (.slice none 0 0) := R0.out.c 0 (by decide)
      have r0f := R0.out.fz 0
      have p0 : wr.cell? ⟨pg, 0, none⟩ = some (.slice sa k sc) := hP.c 0 (by decide)
      have BB := Lib.hid G.out.b
      have BL := Lib.hid (show W.heap.size + 1 ≤ B from by have h1 := G.out.h1; have h2 := G.out.h2; have h3 := G.out.h3; omega)
      clear hb9 hLk hll hP hO G
      cases b9
      · have hE := Lib.hid (show o = none from by rw [← HO.out, HE.out]; rfl)
        have t0 : (wr.setCell ⟨W.heap.size, 0, none⟩ (.slice none 0 0)).cell? ⟨W.heap.size, 0, none⟩ = some (.slice none 0 0) := (R0.out.put 0 (.slice none 0 0)).c 0 (by decide)
        have BF := Lib.hid (show Below W.heap.size W (wr.setCell ⟨W.heap.size, 0, none⟩ (.slice none 0 0)) from BB.out.setCell (Nat.le_refl _) _)
        go_wp2_with (go_at_call 43; refine CE.out.mono ?_; rintro e w' ⟨rfl, rfl⟩)
        refine bodyPost_ret (v := .tuple #[gV none 0 0, .bool false]) (by simp [results, Try.results15, go_sem, t0]) rfl ?_
        rw [hE.out]
        exact ⟨rfl, BF.out⟩
      · obtain ⟨g, hg⟩ : ∃ g, goodL Lk = g := ⟨_, rfl⟩
        have CG := Lib.hid (tgood_any LA.out hg)
        have HG := Lib.hid hg
        clear hg
        cases g
        · have hE := Lib.hid (show o = none from by rw [← HO.out, HE.out, HG.out]; rfl)
          go_wp2_with (go_at_call 43; refine CE.out.mono ?_; rintro e w' ⟨rfl, rfl⟩)
          refine CG.out.mono ?_
          rintro e w8 ⟨rfl, hb8⟩
          have R8 := R0.out.below hb8
          have q0 : w8.cell? ⟨W.heap.size, 0, none⟩ = some (.slice none 0 0) := R8.c 0 (by decide)
          have q0f := R8.fz 0
          have t0 : (w8.setCell ⟨W.heap.size, 0, none⟩ (.slice none 0 0)).cell? ⟨W.heap.size, 0, none⟩ = some (.slice none 0 0) := (R8.put 0 (.slice none 0 0)).c 0 (by decide)
          have BF := Lib.hid (show Below W.heap.size W (w8.setCell ⟨W.heap.size, 0, none⟩ (.slice none 0 0)) from (BB.out.trans (hb8.mono BB.out.size)).setCell (Nat.le_refl _) _)
          clear R8 hb8
          go_wp2_with fail
          refine bodyPost_ret (v := .tuple #[gV none 0 0, .bool false]) (by simp [results, Try.results15, go_sem, t0]) rfl ?_
          rw [hE.out]
          exact ⟨rfl, BF.out⟩
        · have hE := Lib.hid (show o = some Lk from by rw [← HO.out, HE.out, HG.out]; rfl)
          go_wp2_with (go_at_call 43; refine CE.out.mono ?_; rintro e w' ⟨rfl, rfl⟩)
          refine CG.out.mono ?_
          rintro e w8 ⟨rfl, hb8⟩
          have p8 := cell_go p0 hb8
          obtain ⟨⟨x1, x2⟩, x3, x4, x5⟩ := put_at (R0.out.below hb8) (BB.out.trans (hb8.mono BB.out.size)) (Nat.le_refl _) (show W.heap.size < B from BL.out) (OH.out.below hb8)
          have R := Lib.hid (And.intro x4 x5)
          clear x4 x5 hb8 r0 r0f
          go_wp2_with fail
          refine bodyPost_ret (v := .tuple #[gV sa k sc, .bool true]) (by simp [results, Try.results15, go_sem, x3]) rfl ?_
          rw [hE.out]
          have hl9 := HLL.out
          exact ⟨sa, sc, by rw [hl9], by rw [hl9]; exact R.out.1.mono (by have := BL.out; omega), R.out.2⟩

end Go.Proofs.Ytbmpeadoicjpnaa
