/-
  Texts of this claim, put together.
-/
import Derived.Test.YtbmpeadoicjpnaaMal
import Derived.Test.YtbmpeadoicjpnaaMam
import Derived.Deep.Cut

/-
  shoalref15.PutLog.
-/
namespace Go.Proofs.Ytbmpeadoicjpnaa
open Go.RowKit

/-- What a writer has, as a slice. -/
theorem wr_slice {W w : World} {N p : Nat} {bs : List Nat} (h : WrOn W N p bs w) : ∃ a cap, w.cell? ⟨p, 0, none⟩ = some (.slice a bs.length cap) ∧ SlAt bV 256 w a cap bs ∧ ∀ ad, a = some ad → N ≤ ad.block := by
  obtain ⟨⟨F, v, hV⟩, -⟩ := h
  obtain ⟨a, cap, rfl, hs⟩ := hV.slice
  exact ⟨a, cap, hV.cell, hs, fun ad e => (hV.own.lt ad.block (by rw [e]; rfl)).1⟩
theorem ents_take {l : List Le} {k : Nat} (h : k < l.length) : entsB (l.take (k + 1)) = entsB (l.take k) ++ entB (l.getD k default) := by
  rw [List.take_succ_eq_append_getElem h, entsB_more, List.getD, List.getElem?_eq_getElem h]; rfl

set_option maxRecDepth 20000 in
set_option maxHeartbeats 8000000 in
theorem rputl_any {A : Nat → Prop} {W : World} {a : Option Addr} {cap n : Nat} {l : List Le} (h : LgAt A W a cap n l) (hn : n ≤ 10000) {L : List Nat} (hL : putG l = L) :
    Calls Try.prog 26 #[.slice a n cap] W fun e w' => ∃ a' c', e = .returned (.slice a' L.length c') ∧ SlAt bV 256 w' a' c' L ∧ Below W.heap.size W w' ∧ ∀ ad, a' = some ad → W.heap.size ≤ ad.block := by
  obtain ⟨g, hg⟩ : ∃ g, goodL l = g := ⟨_, rfl⟩
  have CG := Lib.hid (rgoodl_any h hg)
  have G := Lib.hid h
  have LN := Lib.hid h.len
  have HG := Lib.hid hg
  have HL := Lib.hid hL
  clear h hL hg
  go_enter Try.func26, Try.ntmps26
  go_wp2_with fail
  refine CG.out.mono ?_
  rintro e w1 ⟨rfl, hb⟩
  have B1 := Lib.hid hb
  clear hb CG
  cases g
  · obtain rfl : L = [] := by rw [← HL.out]; unfold putG; rw [HG.out]; rfl
    go_wp2_with fail
    go_ret
    exact ⟨none, 0, rfl, SlAt.none _ _ _, B1.out, fun ad e => by cases e⟩
  · have HE := Lib.hid (show lebL n ++ entsB l = L from by rw [← HL.out]; unfold putG; rw [HG.out, LN.out]; rfl)
    have GX := Lib.hid (goodL_iff.1 HG.out).1
    have W0 := Lib.hid (show WrOn W W.heap.size w1.heap.size [] (w1.alloc (.cells #[.slice none 0 0] 85)) from ⟨⟨_, _, new_wr w1 W.heap.size B1.out.size _⟩, below_alloc B1.out _⟩)
    have hcn : IntKind.u64.wrap (n : Int) = (n : Int) := by rw [IntKind.wrap_u64]; omega
    clear HL HG
    generalize hw2 : w1.alloc (.cells #[.slice none 0 0] 85) = w2 at *
    have HW2 := Lib.hid hw2
    clear hw2
    go_upto_region 4 with fail
    rw [HW2.out]
    clear HW2
    generalize w1.heap.size = pw at *
    have CN := Lib.hid (ron_num (z := (n : Int)) W0.out rfl (by omega) (by simp))
    go_wp2_with fail
    refine CN.out.mono ?_
    rintro e w3 ⟨rfl, hO⟩
    have O3 := Lib.hid (show WrOn W W.heap.size pw (lebL n ++ entsB (l.take 0)) w3 from by simpa [entsB] using hO)
    clear hO CN W0 B1 hcn
    go_wp2_with fail
    go_loopw [4] (fun i wr => ∃ k : Nat, k ≤ n ∧ i = .int .i64 (k : Nat) ∧ WrOn W W.heap.size pw (lebL n ++ entsB (l.take k)) wr) (fun i _ => n - (intOf i).toNat)
    case atStart => exact ⟨0, Nat.zero_le _, rfl, O3.out⟩
    case round =>
      obtain ⟨k, hk, rfl, hO⟩ := hrel
      have O := Lib.hid hO
      clear hO O3
      by_cases hlt : k < n
      · have hkl : k < l.length := by rw [LN.out]; exact hlt
        have ET := Lib.hid (ents_take hkl)
        have ek : l.getD k default = l[k] := by rw [List.getD, List.getElem?_eq_getElem hkl]; rfl
        have GK := Lib.hid (goodX_iff.1 (show goodX (l.getD k default) = true from by rw [ek]; exact GX.out _ (List.getElem_mem _)))
        have OX := Lib.hid (G.out.okAt hlt)
        have LB := Lib.hid (show (lebL n ++ entsB (l.take k)).length ≤ 400000 from by
          have h1 := entsB_len (l := l.take k) (fun x hx => GX.out x (List.mem_of_mem_take hx)) (fun x hx => (G.out.ok x (List.mem_of_mem_take hx)).2.1)
          have h2 := lens n (by omega)
          rw [List.length_take] at h1
          rw [List.length_append]
          omega)
        obtain ⟨b, off, rfl, -, -, x0, x1, x2⟩ := G.out.cell hlt
        have XC := Lib.hid (show ∀ w', Below W.heap.size W w' → w'.cell? ⟨b, off + k * 3, none⟩ = some (.int .i64 (l.getD k default).f) ∧ w'.cell? ⟨b, off + k * 3 + 1, none⟩ = some (.int .u64 ((l.getD k default).n : Int)) ∧ w'.cell? ⟨b, off + k * 3 + 2, none⟩ = some (.int .u64 ((l.getD k default).t : Int)) from fun w' hb => ⟨cell_go x0 hb, cell_go x1 hb, cell_go x2 hb⟩)
        clear x0 x1 x2 ek hkl
        generalize l.getD k default = x at *
        have i0 : (0 : Int) ≤ (k : Int) := by omega
        have i1 : (k : Int) < (n : Int) := by omega
        obtain ⟨fn, hfn⟩ : ∃ q : Nat, q = x.f.toNat := ⟨_, rfl⟩
        have hcf : IntKind.u64.wrap x.f = (fn : Int) := by have := GK.out; rw [IntKind.wrap_u64]; omega
        have hf16 := Lib.hid (show fn < 18446744073709551616 from by have := GK.out; omega)
        have l1 := Lib.hid (lens fn hf16.out)
        have HF := Lib.hid (show entB x = lebL fn ++ (lebL x.n ++ lebL x.t) from by rw [hfn]; rfl)
        clear hfn
        have l2 := Lib.hid (lens x.n OX.out.2.1)
        have z0 := (XC.out wr O.out.2).1
        have C1 := Lib.hid (ron_num (n := fn) (z := (fn : Int)) O.out rfl hf16.out (by have := LB.out; omega))
        go_wp2_with fail
        refine C1.out.mono ?_
        rintro e w4 ⟨rfl, h4⟩
        have O4 := Lib.hid h4
        have z1 := (XC.out w4 h4.2).2.1
        have C2 := Lib.hid (ron_num (n := x.n) (z := (x.n : Int)) h4 rfl OX.out.2.1 (by have := LB.out; have := l1.out; rw [List.length_append]; omega))
        clear h4 z0 C1 O
        go_wp2_with fail
        refine C2.out.mono ?_
        rintro e w5 ⟨rfl, h5⟩
        have O5 := Lib.hid h5
        have z2 := (XC.out w5 h5.2).2.2
        have C3 := Lib.hid (ron_num (n := x.t) (z := (x.t : Int)) h5 rfl OX.out.2.2 (by have := LB.out; have := l1.out; have := l2.out; rw [List.length_append, List.length_append]; omega))
        clear h5 z1 C2 O4
        go_wp2_with (go_at_call 51; refine C3.out.mono ?_; rintro e w6 ⟨rfl, h6⟩; have O6 := Lib.hid h6; clear h6)
        go_roundw
        case rel => exact ⟨k + 1, by omega, by go_num, by rw [ET.out, HF.out]; have := O6.out; simpa [List.append_assoc] using this⟩
        case measure => simp only [intOf]; omega
      · obtain rfl : k = n := by omega
        have dk : decide ((k : Int) < (k : Int)) = false := decide_eq_false (by omega)
        have P := O.out
        rw [List.take_of_length_le (by rw [LN.out]; exact Nat.le_refl _), HE.out] at P
        obtain ⟨sa, sc, hc, hs, hf⟩ := wr_slice P
        have R := Lib.hid (And.intro hs (And.intro P.2 hf))
        clear P hs O hf
        go_wp2_with fail
        go_ret
        exact ⟨_, _, rfl, R.out⟩

end Go.Proofs.Ytbmpeadoicjpnaa

/-
  shoalref15.GetLog.
-/
namespace Go.Proofs.Ytbmpeadoicjpnaa
open Go.RowKit

/-- A log that is read: the entries so far, the reader. -/
structure GlS (W wr : World) (S : Nat → Prop) (s : Option (List Nat)) (v : Value) (L : List Le) : Prop where
  rd : RdAt wr W.heap.size S s
  b : Below W.heap.size W wr
  own : OwnLg 43 (W.heap.size + 1) wr v L
  sz : W.heap.size + 1 ≤ wr.heap.size
  S : ∀ k, S k → k < W.heap.size
section
variable {W wr w' : World} {S : Nat → Prop} {s s' : Option (List Nat)} {v : Value} {L : List Le}
theorem GlS.num (h : GlS W wr S s v L) (hr : RdAt w' W.heap.size S s') (hk : Keep (fun k => k = W.heap.size) wr w') : GlS W w' S s' v L :=
  ⟨hr, h.b.trans (hk.below h.b.size (fun k e => Nat.le_of_eq e.symm)), h.own.keep hk (fun k h1 _ e => by omega), Nat.le_trans h.sz hk.size, h.S⟩
theorem GlS.keep {G : Nat → Prop} (h : GlS W wr S s v L) (hk : Keep G wr w') (hG : ∀ k, G k → W.heap.size < k ∧ v.ownBlock ≠ some k) : GlS W w' S s v L :=
  ⟨h.rd.keep hk (fun g => by have := hG _ g; omega) (fun k hk2 g => by have := hG k g; have := h.S k hk2; omega), h.b.trans (hk.below h.b.size (fun k g => by have := hG k g; omega)),
    ⟨own_carry h.own.own fun k e => hk.block k (h.own.own.lt k e).2 (fun g => (hG k g).2 e), h.own.ok⟩, Nat.le_trans h.sz hk.size, h.S⟩
theorem GlS.below (h : GlS W wr S s v L) (hb : Below wr.heap.size wr w') : GlS W w' S s v L := h.keep (Keep.ofBelow (F := fun _ => False) hb) (fun _ h => h.elim)
theorem GlS.push {w2 : World} {v2 : Value} {x : Le} (h : GlS W wr S s v L) (hx : OkX x) (hown : w2.ownsRow (W.heap.size + 1) 43 3 v2 (L.length + 1) (lgC L ++ xC x)) (hgr : wr.grownBy w2 v.ownBlock) : GlS W w2 S s v2 (L ++ [x]) := by
  have kk : Keep (fun j => v.ownBlock = some j) wr w2 := (Keep.refl _ _).grown hgr (fun j h => Or.inl h)
  have lo : ∀ j, v.ownBlock = some j → W.heap.size + 1 ≤ j := fun j e => (h.own.own.lt j e).1
  exact ⟨h.rd.keep kk (fun e => by have := lo _ e; omega) (fun k hk e => by have := lo _ e; have := h.S k hk; omega), h.b.trans (kk.below h.b.size (fun k e => by have := lo k e; omega)), h.own.push hx hown, Nat.le_trans h.sz kk.size, h.S⟩
end
/-- What is read: the log, or none. -/
def GlPost (W : World) (o : Option (List Le)) (e : Ending) (w' : World) : Prop := match o with
  | some m => ∃ a' c', e = .returned (.tuple #[.slice a' m.length c', .bool true]) ∧ LgAt (fun k => W.heap.size ≤ k) w' a' c' m.length m ∧ Below W.heap.size W w'
  | none => e = .returned (.tuple #[.slice none 0 0, .bool false]) ∧ Below W.heap.size W w'

set_option maxRecDepth 20000 in
set_option maxHeartbeats 16000000 in
theorem rgetl_any {W : World} {ao : Option Addr} {cap len : Nat} {bs : List Nat} (hs : SlAt bV 256 W ao cap bs) (hlen : bs.length = len) {o : Option (List Le)} (ho : getG bs = o) :
    Calls Try.prog 27 #[.slice ao len cap] W (GlPost W o) := by
  obtain ⟨ti, hi0, hz0, hz1, hz2⟩ := info_x Try.infoE
  subst hlen
  have RB := rd_box (t := 88) hs (Below.refl _ W)
  obtain ⟨w0, hw0⟩ : ∃ w0, w0 = W.alloc (.cells #[.slice ao bs.length cap, .bool false] 88) := ⟨_, rfl⟩
  rw [← hw0] at RB
  have CN := Lib.hid (rrnum_any w0 W.heap.size _ _ 4294967296 RB)
  obtain ⟨n, hn⟩ : ∃ n, n = (numR 4294967296 (some bs)).1 := ⟨_, rfl⟩
  obtain ⟨s0, hs0⟩ : ∃ s, s = (numR 4294967296 (some bs)).2 := ⟨_, rfl⟩
  have NB := Lib.hid (show n ≤ 4294967296 from by rw [hn]; exact numR_le _ _)
  rw [← hn, ← hs0] at CN
  have HO := Lib.hid (show (if endR (entsR n s0).2 && goodL (entsR n s0).1 then some (entsR n s0).1 else none) = o from by rw [hn, hs0]; exact ho)
  have I0 := Lib.hid (fun (w1 : World) (hr : RdAt w1 W.heap.size (fun k => k < W.heap.size) s0) (hk : Keep (fun k => k = W.heap.size) w0 w1) => show GlS W w1 (fun k => k < W.heap.size) (entsR 0 s0).2 (.slice none 0 0) (entsR 0 s0).1 from
    GlS.num ⟨RB, by rw [hw0]; exact below_alloc (Below.refl _ _) _, OwnLg.nil _, by rw [hw0]; simp, fun k h => h⟩ hr hk)
  have HW0 := Lib.hid hw0.symm
  clear RB hw0 hn hs0 ho hs
  go_enter Try.func27, Try.ntmps27
  go_upto_region 2 with fail
  rw [HW0.out]
  clear HW0
  go_wp2_with fail
  refine CN.out.mono ?_
  rintro e w1 ⟨rfl, hr1, hk1⟩
  have I1 := Lib.hid (I0.out w1 hr1 hk1)
  clear hr1 hk1 I0 CN
  go_wp2_with fail
  go_loopw [6, 7] (fun v i wr => ∃ k : Nat, k ≤ n ∧ i = .int .u64 (k : Nat) ∧ GlS W wr (fun k => k < W.heap.size) (entsR k s0).2 v (entsR k s0).1) (fun _ i _ => n - (intOf i).toNat)
  case atStart => exact ⟨0, Nat.zero_le _, rfl, I1.out⟩
  case round =>
    obtain ⟨k, hk, rfl, hG⟩ := hrel
    have hl := entsR_len k s0
    obtain ⟨sa, sc, rfl⟩ := hG.own.form
    rw [hl] at hG ⊢
    obtain ⟨ra, rc, hV⟩ := hG.rd
    have c1 := hV.c1
    have G := Lib.hid hG
    have HL := Lib.hid hl
    clear hG hl hV I1
    by_cases hlt : k < n
    · have d0 : decide ((k : Int) < (n : Int)) = true := decide_eq_true (by omega)
      have d0' : decide (k < n) = true := decide_eq_true hlt
      obtain ⟨sk, hsk⟩ : ∃ s, s = (entsR k s0).2 := ⟨_, rfl⟩
      rw [← hsk] at G c1
      have HSK := Lib.hid hsk
      clear hsk
      cases sk with
      | none =>
        have hE := Lib.hid (show o = none from by
          have := entsR_none (k := k) (s := s0) HSK.out.symm (n - k)
          rw [show k + (n - k) = n by omega] at this
          rw [← HO.out, this]; rfl)
        have c1' : wr.cell? ⟨W.heap.size, 1, none⟩ = some (.bool true) := c1
        have CE := Lib.hid (rrend_any wr W.heap.size _ _ G.out.rd)
        have BB := Lib.hid G.out.b
        clear c1 G
        go_wp2_with (go_at_call 53; refine CE.out.mono ?_; rintro e w' ⟨rfl, rfl⟩)
        go_ret2
        rw [hE.out]
        exact ⟨rfl, BB.out⟩
      | some B =>
        have c1' : wr.cell? ⟨W.heap.size, 1, none⟩ = some (.bool false) := c1
        have C1 := Lib.hid (rrnum_any wr W.heap.size _ _ 15 G.out.rd)
        obtain ⟨f, hf⟩ : ∃ q, q = (numR 15 (some B)).1 := ⟨_, rfl⟩
        obtain ⟨s1, hs1⟩ : ∃ q, q = (numR 15 (some B)).2 := ⟨_, rfl⟩
        obtain ⟨m1, hm1⟩ : ∃ q, q = (numR 18446744073709551615 s1).1 := ⟨_, rfl⟩
        obtain ⟨s2, hs2⟩ : ∃ q, q = (numR 18446744073709551615 s1).2 := ⟨_, rfl⟩
        obtain ⟨t1, ht1⟩ : ∃ q, q = (numR 65535 s2).1 := ⟨_, rfl⟩
        obtain ⟨s3, hs3⟩ : ∃ q, q = (numR 65535 s2).2 := ⟨_, rfl⟩
        have F15 := Lib.hid (show f ≤ 15 from by rw [hf]; exact numR_le _ _)
        have ER := Lib.hid (show (entsR (k + 1) s0).1 = (entsR k s0).1 ++ [⟨(f : Int), m1, t1⟩] ∧ (entsR (k + 1) s0).2 = s3 from by
          have e : entR (some B) = (⟨(f : Int), m1, t1⟩, s3) := by rw [hs3, ht1, hs2, hm1, hs1, hf]; rfl
          have e2 : entsR (k + 1) s0 = ((entsR k s0).1 ++ [(entR (entsR k s0).2).1], (entR (entsR k s0).2).2) := rfl
          rw [e2, ← HSK.out, e]
          exact ⟨rfl, rfl⟩)
        have OX := Lib.hid (show OkX ⟨(f : Int), m1, t1⟩ from ⟨⟨by have := F15.out; show (-9223372036854775808 : Int) ≤ (f : Int); omega, by have := F15.out; show (f : Int) ≤ 9223372036854775807; omega⟩, by rw [hm1]; exact numR_lt _ _, by rw [ht1]; exact numR_lt _ _⟩)
        have CN2 := Lib.hid (fun (w : World) (h : RdAt w W.heap.size (fun k => k < W.heap.size) s1) => rrnum_any w W.heap.size _ _ 18446744073709551615 h)
        have CN3 := Lib.hid (fun (w : World) (h : RdAt w W.heap.size (fun k => k < W.heap.size) s2) => rrnum_any w W.heap.size _ _ 65535 h)
        rw [← hf, ← hs1] at C1
        rw [← hm1, ← hs2] at CN2
        rw [← ht1, ← hs3] at CN3
        have hcv : IntKind.i64.wrap (f : Int) = (f : Int) := by have := F15.out; rw [IntKind.wrap_i64]; omega
        clear hf hs1 hm1 hs2 ht1 hs3 c1
        go_wp2_with fail
        refine C1.out.mono ?_
        rintro e w2 ⟨rfl, hr2, hk2⟩
        have G2 := Lib.hid (G.out.num hr2 hk2)
        have OB := Lib.hid (fun g (e : (Value.slice sa k sc).ownBlock = some g) => (show g < w2.heap.size from by
          have h := (G2.out.own.own.lt g e).2
          exact h))
        obtain ⟨w3, hw3⟩ : ∃ w3, w3 = w2.alloc (.cells #[.int .i64 (f : Int), .int .u64 0, .int .u64 0] 43) := ⟨_, rfl⟩
        have hb3 : Below w2.heap.size w2 w3 := by rw [hw3]; exact boxb _ _
        have X3 := Lib.hid (show Cel 3 w3 w2.heap.size (xcE ⟨(f : Int), 0, 0⟩) from by rw [hw3]; exact boxX w2 ⟨(f : Int), 0, 0⟩ _)
        have G3 := Lib.hid (G2.out.below hb3)
        have P8 := Lib.hid (show W.heap.size < w2.heap.size from G2.out.sz)
        have C2 := Lib.hid (CN2.out w3 G3.out.rd)
        have HW3 := Lib.hid hw3.symm
        clear hr2 hk2 hb3 hw3 C1 G G2 CN2
        go_upto_region 8 with fail
        rw [HW3.out]
        clear HW3
        generalize w2.heap.size = p8 at *
        go_wp2_with fail
        refine C2.out.mono ?_
        rintro e w4 ⟨rfl, hr4, hk4⟩
        have X4 := Lib.hid (X3.out.keep hk4 (by have := P8.out; omega))
        have G4 := Lib.hid (G3.out.num hr4 hk4)
        have y1 : w4.cell? ⟨p8, 1, none⟩ = some (.int .u64 ((0 : Nat) : Int)) := X4.out.c 1 (by decide)
        have y1f := X4.out.fz 1
        have X5 := Lib.hid (X4.out.put 1 (.int .u64 (m1 : Int)))
        have G5 := Lib.hid (G4.out.keep (G := fun j => j = p8) (show Keep (fun j => j = p8) w4 (w4.setCell ⟨p8, 1, none⟩ (.int .u64 (m1 : Int))) from (Keep.refl _ _).put _ _) (fun j e => ⟨by have := P8.out; omega, fun e2 => by have := OB.out j e2; omega⟩))
        have C3 := Lib.hid (CN3.out _ G5.out.rd)
        clear hr4 hk4 X3 X4 G3 G4 C2 CN3
        go_upto_region 9 with fail
        generalize w4.setCell ⟨p8, 1, none⟩ (.int .u64 (m1 : Int)) = w5 at *
        clear y1 y1f
        go_wp2_with fail
        refine C3.out.mono ?_
        rintro e w6 ⟨rfl, hr6, hk6⟩
        have X6 := Lib.hid (X5.out.keep hk6 (by have := P8.out; omega))
        have G6 := Lib.hid (G5.out.num hr6 hk6)
        have y2 : w6.cell? ⟨p8, 2, none⟩ = some (.int .u64 ((0 : Nat) : Int)) := X6.out.c 2 (by decide)
        have y2f := X6.out.fz 2
        have X7 := Lib.hid (X6.out.put 2 (.int .u64 (t1 : Int)))
        have G7 := Lib.hid (G6.out.keep (G := fun j => j = p8) (show Keep (fun j => j = p8) w6 (w6.setCell ⟨p8, 2, none⟩ (.int .u64 (t1 : Int))) from (Keep.refl _ _).put _ _) (fun j e => ⟨by have := P8.out; omega, fun e2 => by have := OB.out j e2; omega⟩))
        clear hr6 hk6 X5 X6 G5 G6 C3
        go_upto_region 10 with fail
        generalize w6.setCell ⟨p8, 2, none⟩ (.int .u64 (t1 : Int)) = w7 at *
        clear y2 y2f
        have z0 : w7.cell? ⟨p8, 0, none⟩ = some (.int .i64 (f : Int)) := X7.out.c 0 (by decide)
        have z1 : w7.cell? ⟨p8, 1, none⟩ = some (.int .u64 (m1 : Int)) := X7.out.c 1 (by decide)
        have z2 : w7.cell? ⟨p8, 2, none⟩ = some (.int .u64 (t1 : Int)) := X7.out.c 2 (by decide)
        have hk32 := NB.out
        have hadd : IntKind.u64.wrap ((k : Int) + 1) = (k : Int) + 1 := by rw [IntKind.wrap_u64]; omega
        go_wp2_with (at_builtin
                     refine wpList_append_at rfl (.tmp 36) (.tmp 38) 40 rfl (W.heap.size + 1) 43 ti (.agg #[.int .i64 0, .int .u64 0, .int .u64 0]) 3 24 Try.underlying40 hi0 hz0 hz1 hz2 rfl (by decide) (.slice sa k sc) k (lgC (entsR k s0).1) rfl ?h1 _ _ _ (xC ⟨(f : Int), m1, t1⟩) rfl ?h2 ?h3 ?h4 ?h5 ?h6 ?h7 ?h8 ?_
                     case h1 =>
                       have h := (G7.out.below (boxb w7 (.cells #[.int .i64 (f : Int), .int .u64 (m1 : Int), .int .u64 (t1 : Int)] 43))).own.own
                       rw [HL.out] at h
                       exact h
                     case h2 => rfl
                     case h3 => intro e; cases e
                     case h4 => exact ent_cells w7 ⟨(f : Int), m1, t1⟩ _
                     case h5 => exact xC_one _
                     case h6 => unfold maxLen; omega
                     case h7 => omega
                     case h8 => have := G7.out.sz; simp; omega
                     intro v9 w9 hown9 hgr9 hat9
                     have R9 := Lib.hid ((G7.out.below (boxb w7 (.cells #[.int .i64 (f : Int), .int .u64 (m1 : Int), .int .u64 (t1 : Int)] 43))).push (v2 := v9) OX.out (by rw [HL.out]; exact hown9) hgr9)
                     clear hown9 hgr9 hat9)
        go_roundw
        case rel => exact ⟨k + 1, by omega, by go_num, by rw [ER.out.1, ER.out.2]; exact R9.out⟩
        case measure => simp only [intOf]; omega
    · obtain rfl : k = n := by omega
      have d0 : decide ((k : Int) < (k : Int)) = false := decide_eq_false (by omega)
      have CE := Lib.hid (rrend_any wr W.heap.size _ _ G.out.rd)
      have BB := Lib.hid G.out.b
      have LA := Lib.hid (show LgAt (fun j => W.heap.size ≤ j) wr sa sc k (entsR k s0).1 from (G.out.own.at HL.out).mono (fun j _ h => by omega))
      obtain ⟨b9, hb9⟩ : ∃ b, b = endR (entsR k s0).2 := ⟨_, rfl⟩
      rw [← hb9] at CE
      have HE := Lib.hid hb9.symm
      clear hb9 c1 G
      cases b9
      · go_wp2_with (go_at_call 53; refine CE.out.mono ?_; rintro e w' ⟨rfl, rfl⟩)
        go_ret2
        rw [← HO.out, HE.out]
        exact ⟨rfl, BB.out⟩
      · obtain ⟨g, hg⟩ : ∃ g, goodL (entsR k s0).1 = g := ⟨_, rfl⟩
        have CG := Lib.hid (rgoodl_any LA.out hg)
        have HG := Lib.hid hg
        clear hg
        cases g
        · go_wp2_with (first
            | (go_at_call 53; refine CE.out.mono ?_; rintro e w' ⟨rfl, rfl⟩)
            | (go_at_call 20; refine CG.out.mono ?_; rintro e w8 ⟨rfl, hb8⟩))
          have B8 := Lib.hid (BB.out.trans (hb8.mono BB.out.size))
          go_ret2
          rw [← HO.out, HE.out, HG.out]
          exact ⟨rfl, B8.out⟩
        · go_wp2_with (first
            | (go_at_call 53; refine CE.out.mono ?_; rintro e w' ⟨rfl, rfl⟩)
            | (go_at_call 20; refine CG.out.mono ?_; rintro e w8 ⟨rfl, hb8⟩))
          have B8 := Lib.hid (BB.out.trans (hb8.mono BB.out.size))
          have L8 := Lib.hid (LA.out.below hb8)
          go_ret2
          rw [← HO.out, HE.out, HG.out]
          exact ⟨sa, sc, by rw [HL.out]; rfl, by rw [HL.out]; exact L8.out, B8.out⟩

end Go.Proofs.Ytbmpeadoicjpnaa
