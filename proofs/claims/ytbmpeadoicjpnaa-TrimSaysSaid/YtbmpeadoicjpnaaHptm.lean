import Derived.Test.YtbmpeadoicjpnaaMaf
import Derived.Test.YtbmpeadoicjpnaaMan
import Derived.Test.YtbmpeadoicjpnaaMad

/-
  trim.Put.
-/
namespace Go.Proofs.Ytbmpeadoicjpnaa
open Go.RowKit Go.Sort

/-- A writer, and a block of three cells that is none of it. -/
def WrC (W : World) (N p q : Nat) (V : Nat → Value) (bs : List Nat) (w : World) : Prop := ∃ F, WrAt w N p F bs ∧ ¬ F q ∧ Cel 3 w q V ∧ Below N W w
theorem WrC.wr {W w : World} {N p q : Nat} {V : Nat → Value} {bs : List Nat} (h : WrC W N p q V bs w) : WrOn W N p bs w := by
  obtain ⟨F, h1, -, -, h4⟩ := h
  exact ⟨⟨F, h1⟩, h4⟩
theorem WrC.cel {W w : World} {N p q : Nat} {V : Nat → Value} {bs : List Nat} (h : WrC W N p q V bs w) : Cel 3 w q V := by
  obtain ⟨F, -, -, h3, -⟩ := h
  exact h3
theorem WrC.start {W w w' : World} {N p : Nat} {V : Nat → Value} {bs : List Nat} (h : WrOn W N p bs w) (hb : Below w.heap.size w w') (C : Cel 3 w' w.heap.size V) : WrC W N p w.heap.size V bs w' := by
  obtain ⟨⟨F, hA⟩, hB⟩ := h
  exact ⟨F, hA.below hb, fun f => by have := (hA.size.2.2 _ f).2; omega, C, hB.trans (hb.mono hA.size.1)⟩
theorem WrC.post {W w w' : World} {N p q : Nat} {V : Nat → Value} {F : Nat → Prop} {bs cs : List Nat} {e : Ending} (hA : WrAt w N p F bs) (hq : ¬ F q) (C : Cel 3 w q V) (hB : Below N W w) (h : WrPost w N p F cs e w') : WrC W N p q V cs w' := by
  obtain ⟨_, F', hA', hK, hF⟩ := h
  have hN : N ≤ w.heap.size := hA.size.1
  exact ⟨F', hA', fun f => by
    rcases hF q f with f | f
    · exact hq f
    · have := C.lt; omega, C.keep hK hq, hB.trans (hK.below hN (fun k f => (hA.size.2.2 k f).1))⟩
theorem wc_num {W w : World} {N p q n : Nat} {z : Int} {V : Nat → Value} {bs : List Nat} (h : WrC W N p q V bs w) (hz : (n : Int) = z) (hn : n < 18446744073709551616) (hl : bs.length ≤ 1000000) :
    Calls Try.prog 45 #[.pointer (some ⟨p, 0, none⟩), .int .u64 z] w fun e w' => e = .returned (.tuple #[]) ∧ WrC W N p q V (bs ++ lebL n) w' := by
  subst hz
  obtain ⟨F, hA, hq, C, hB⟩ := h
  exact (wnum_any w N p F bs n hA hn hl).mono fun e w' h => ⟨h.1, WrC.post hA hq C hB h⟩
theorem wc_set {W w : World} {N p q n : Nat} {V : Nat → Value} {bs : List Nat} (h : WrC W N p q V bs w) (hn : n < 18446744073709551616) (hl : bs.length ≤ 1000000) :
    Calls Try.prog 46 #[.pointer (some ⟨p, 0, none⟩), .int .u64 (n : Nat)] w fun e w' => e = .returned (.tuple #[]) ∧ WrC W N p q V (bs ++ lebL n) w' := by
  obtain ⟨F, hA, hq, C, hB⟩ := h
  exact (wset_any w N p F bs n hA hn hl).mono fun e w' h => ⟨h.1, WrC.post hA hq C hB h⟩
theorem won_new {W : World} {N : Nat} {w : World} (hB : Below N W w) (hN : N ≤ w.heap.size) :
    Calls Try.prog 44 #[] w fun e w' => ∃ p, e = .returned (.pointer (some ⟨p, 0, none⟩)) ∧ WrOn W N p [] w' :=
  (wnew_any w N hN).mono fun _ _ ⟨he, ⟨_, hA⟩, hb⟩ => ⟨_, he, ⟨_, ⟨_, hA⟩⟩, hB.trans (hb.mono hN)⟩

set_option maxRecDepth 20000 in
set_option maxHeartbeats 8000000 in
theorem tput_any {A : Nat → Prop} {W : World} {a : Option Addr} {cap n : Nat} {l : List Le} (h : LgAt A W a cap n l) (hn : n ≤ 10000) {L : List Nat} (hL : putG l = L) :
    Calls Try.prog 16 #[gV a n cap] W fun e w' => ∃ a' c', e = .returned (.slice a' L.length c') ∧ SlAt bV 256 w' a' c' L ∧ Below W.heap.size W w' ∧ ∀ ad, a' = some ad → W.heap.size ≤ ad.block := by
  obtain ⟨g, hg⟩ : ∃ g, goodL l = g := ⟨_, rfl⟩
  obtain ⟨U, hU⟩ : ∃ U, U = W.alloc (.cells #[.slice a n cap] 29) := ⟨_, rfl⟩
  have C1 : Cel 1 U W.heap.size (gcE a n cap) := by rw [hU]; exact boxG W a n cap _
  have HB := Lib.hid (show Below W.heap.size W U from by rw [hU]; exact boxb W _)
  have c0 : U.cell? ⟨W.heap.size, 0, none⟩ = some (.slice a n cap) := C1.c 0 (by decide)
  have X1 := Lib.hid C1
  have CG := Lib.hid (tgood_any (h.below HB.out) hg)
  have G := Lib.hid (h.below HB.out)
  have LN := Lib.hid h.len
  have HG := Lib.hid hg
  have HL := Lib.hid hL
  have HU := Lib.hid hU.symm
  clear h hL hg hU C1
  go_enter Try.func16, Try.ntmps16
  go_upto_region 1 with fail
  rw [HU.out]
  go_wp2_with fail
  refine CG.out.mono ?_
  rintro e w1 ⟨rfl, hb⟩
  have B1 := Lib.hid hb
  clear hb CG
  cases g
  · obtain rfl : L = [] := by rw [← HL.out]; unfold putG; rw [HG.out]; rfl
    have BB := Lib.hid (HB.out.trans (B1.out.mono HB.out.size))
    go_wp2_with fail
    go_ret
    exact ⟨none, 0, rfl, SlAt.none _ _ _, BB.out, fun ad e => by cases e⟩
  · have HE := Lib.hid (show lebL n ++ entsB l = L from by rw [← HL.out]; unfold putG; rw [HG.out, LN.out]; rfl)
    have GX := Lib.hid (goodL_iff.1 HG.out).1
    have NW := Lib.hid (won_new (W := U) (N := U.heap.size) B1.out B1.out.size)
    have hcn : IntKind.u64.wrap (n : Int) = (n : Int) := by rw [IntKind.wrap_u64]; omega
    clear HL HG c0 HU
    go_wp2_with fail
    refine NW.out.mono ?_
    rintro e w2 ⟨pw, rfl, hW⟩
    have c2 : w2.cell? ⟨W.heap.size, 0, none⟩ = some (.slice a n cap) := (X1.out.below hW.2).c 0 (by decide)
    have CN := Lib.hid (on_numz (z := (n : Int)) hW rfl (by omega) (by simp))
    clear hW NW B1
    go_wp2_with fail
    refine CN.out.mono ?_
    rintro e w3 ⟨rfl, hO⟩
    have O3 := Lib.hid (show WrOn U U.heap.size pw (lebL n ++ entsB (l.take 0)) w3 from by simpa [entsB] using hO)
    have c3 : w3.cell? ⟨W.heap.size, 0, none⟩ = some (.slice a n cap) := (X1.out.below hO.2).c 0 (by decide)
    clear hO CN hcn c2
    go_wp2_with fail
    clear c3
    go_loopw [19] (fun i wr => ∃ k : Nat, k ≤ n ∧ i = .int .i64 (k : Nat) ∧ WrOn U U.heap.size pw (lebL n ++ entsB (l.take k)) wr) (fun i _ => n - (intOf i).toNat)
    case atStart => exact ⟨0, Nat.zero_le _, rfl, O3.out⟩
    case round =>
      obtain ⟨k, hk, rfl, hO⟩ := hrel
      have O := Lib.hid hO
      clear hO O3
      by_cases hlt : k < n
      · have hkl : k < l.length := by rw [LN.out]; exact hlt
        have ET := Lib.hid (ents_take hkl)
        have ek : l.getD k default = l[k] := by rw [List.getD, List.getElem?_eq_getElem hkl]; rfl
        have GK := Lib.hid (goodX_iff.1 (show goodX (l.getD k default) = true from by rw [ek]; exact GX.out _ (List.getElem_mem _)))
        have OX := Lib.hid (G.out.okAt hlt)
        have LB := Lib.hid (show (lebL n ++ entsB (l.take k)).length ≤ 400000 from by
          have h1 := entsB_len (l := l.take k) (fun x hx => GX.out x (List.mem_of_mem_take hx)) (fun x hx => (G.out.ok x (List.mem_of_mem_take hx)).2.1)
          have h2 := lens n (by omega)
          rw [List.length_take] at h1
          rw [List.length_append]
          omega)
        obtain ⟨b, off, rfl, -, -, x0, x1, x2⟩ := (G.out.below O.out.2).cell hlt
        clear ek hkl
        generalize l.getD k default = x at *
        have i0 : (0 : Int) ≤ (k : Int) := by omega
        have i1 : (k : Int) < (n : Int) := by omega
        obtain ⟨fn, hfn⟩ : ∃ q : Nat, q = x.f.toNat := ⟨_, rfl⟩
        have hcf : IntKind.u64.wrap x.f = (fn : Int) := by have := GK.out; rw [IntKind.wrap_u64]; omega
        have hf16 := Lib.hid (show fn < 18446744073709551616 from by have := GK.out; omega)
        have l1 := Lib.hid (lens fn hf16.out)
        have HF := Lib.hid (show entB x = lebL fn ++ (lebL x.n ++ lebL x.t) from by rw [hfn]; rfl)
        clear hfn
        have l2 := Lib.hid (lens x.n OX.out.2.1)
        obtain ⟨V, hV⟩ : ∃ V, V = wr.alloc (.cells #[.int .i64 x.f, .int .u64 (x.n : Int), .int .u64 (x.t : Int)] 26) := ⟨_, rfl⟩
        have WC := Lib.hid (WrC.start O.out (show Below wr.heap.size wr V by rw [hV]; exact boxb wr _) (V := xcE x) (by rw [hV]; exact boxX wr x _))
        have z0 : V.cell? ⟨wr.heap.size, 0, none⟩ = some (.int .i64 x.f) := WC.out.cel.c 0 (by decide)
        have C1 := Lib.hid (wc_num (n := fn) (z := (fn : Int)) WC.out rfl hf16.out (by have := LB.out; omega))
        have HV := Lib.hid hV.symm
        clear hV
        go_upto_region 8 with fail
        rw [HV.out]
        go_wp2_with fail
        refine C1.out.mono ?_
        rintro e w4 ⟨rfl, h4⟩
        have O4 := Lib.hid h4
        have z1 : w4.cell? ⟨wr.heap.size, 1, none⟩ = some (.int .u64 (x.n : Int)) := h4.cel.c 1 (by decide)
        have C2 := Lib.hid (wc_num (n := x.n) (z := (x.n : Int)) h4 rfl OX.out.2.1 (by have := LB.out; have := l1.out; rw [List.length_append]; omega))
        clear h4 z0 C1 O x0 x1 x2 HV
        go_wp2_with fail
        refine C2.out.mono ?_
        rintro e w5 ⟨rfl, h5⟩
        have z2 : w5.cell? ⟨wr.heap.size, 2, none⟩ = some (.int .u64 (x.t : Int)) := h5.cel.c 2 (by decide)
        have C3 := Lib.hid (wc_set (n := x.t) h5 OX.out.2.2 (by have := LB.out; have := l1.out; have := l2.out; rw [List.length_append, List.length_append]; omega))
        clear h5 z1 C2 O4
        go_wp2_with (go_at_call 46; refine C3.out.mono ?_; rintro e w6 ⟨rfl, h6⟩; have O6 := Lib.hid h6.wr; clear h6)
        go_roundw
        case rel => exact ⟨k + 1, by omega, by go_num, by rw [ET.out, HF.out]; have := O6.out; simpa [List.append_assoc] using this⟩
        case measure => simp only [intOf]; omega
      · obtain rfl : k = n := by omega
        have dk : decide ((k : Int) < (k : Int)) = false := decide_eq_false (by omega)
        have P := O.out
        rw [List.take_of_length_le (by rw [LN.out]; exact Nat.le_refl _), HE.out] at P
        have LL := Lib.hid (show L.length ≤ 2000000 from by
          rw [← HE.out]
          have h1 := entsB_len (l := l) (fun x hx => GX.out x hx) (fun x hx => (G.out.ok x hx).2.1)
          have h2 := lens k (by omega)
          rw [LN.out] at h1
          rw [List.length_append]
          omega)
        have DC := Lib.hid (on_done P LL.out)
        have PS := Lib.hid (show U.heap.size ≤ wr.heap.size from P.2.size)
        clear P O
        go_wp2_with (go_at_call 47; refine DC.out.mono ?_; rintro e w6 ⟨sa, sc, rfl, hs, hw, -, hf⟩; have R := Lib.hid (And.intro hs (And.intro (HB.out.trans (hw.2.mono HB.out.size)) hf)); clear hs hw hf)
        go_ret
        exact ⟨_, _, rfl, R.out.1, R.out.2.1, fun ad e => by have := R.out.2.2 ad e; have := PS.out; have := HB.out.size; omega⟩

end Go.Proofs.Ytbmpeadoicjpnaa
