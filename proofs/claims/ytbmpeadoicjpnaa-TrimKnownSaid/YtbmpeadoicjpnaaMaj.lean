/-
  Texts of this claim, put together.
-/
import Derived.Test.YtbmpeadoicjpnaaMah
import Derived.Test.YtbmpeadoicjpnaaMai

/-
  trim.Add.
-/
namespace Go.Proofs.Ytbmpeadoicjpnaa
open Go.RowKit Go.Sort

/-- An entry is written over. -/
theorem OwnLg.setX {T : TypeId} {B : Nat} {w : World} {a : Option Addr} {n cap : Nat} {l : List Le} (h : OwnLg T B w (.slice a n cap) l) (hn : l.length = n) {k : Nat} (hk : k < n) {x : Le} (hx : OkX x) :
    ∃ g, a = some ⟨g, 0, none⟩ ∧ B ≤ g ∧ g < w.heap.size ∧ (∀ o, o < 3 → ∃ u, w.cell? ⟨g, k * 3 + o, none⟩ = some u) ∧ (∀ j, w.frozen? ⟨g, j, none⟩ = false) ∧
      OwnLg T B (w.setCells g (k * 3) (xC x)) (.slice (some ⟨g, 0, none⟩) n cap) (l.set k x) ∧ Keep (fun k => k = g) w (w.setCells g (k * 3) (xC x)) := by
  subst hn
  have ho := h.own
  have hl := ho.lt
  have hL := lgC_len l
  rcases ho.2 with ⟨e0, h0⟩ | ⟨g, c2, cur, e0, hb, hg, -⟩
  · exact absurd h0 (by omega)
  · simp only [Value.slice.injEq, true_and] at e0
    obtain ⟨rfl, rfl⟩ := e0
    obtain ⟨hs, hk2⟩ := own_sets (xC x) _ (k * 3) w ho
    have hx3 : (xC x).length = 3 := rfl
    rw [setL_eq _ _ _ (by rw [hx3]; omega), hx3, show k * 3 + 3 = (k + 1) * 3 by omega, lgC_take, lgC_drop] at hs
    have e : l.set k x = l.take k ++ x :: l.drop (k + 1) := List.set_eq_take_append_cons_drop.trans (if_pos hk)
    refine ⟨g, rfl, hb, (hl g rfl).2, fun o h3 => ?_, fun j => ho.frozenAt j, ⟨?_, fun y hy => ?_⟩, hk2⟩
    · exact ⟨_, (ho.cellAt (k * 3 + o) (by omega)).trans (List.getElem?_eq_getElem (by omega))⟩
    · rw [List.length_set, e, lgC_append, lgC_cons]
      rw [List.append_assoc] at hs
      exact hs
    · rcases List.mem_or_eq_of_mem_set hy with hy | rfl
      · exact h.ok y hy
      · exact hx

theorem add_has {l : List Le} {x : Le} (hl : goodL l = true) (hx : goodX x = true) (h : hasX l x = true) : placeX l x < l.length ∧ addL l x = l.set (placeX l x) x := by
  have hr := (goodL_iff.1 hl).2
  have hp := place_spec (x := x) hr
  have hle := place_le l x
  have h1 := (has_is_at hr hle (fun i hi => hp.1 i (by omega) hi) (fun h2 => hp.2 _ h2 (Nat.le_refl _))).1 h
  obtain ⟨h2, h3⟩ := h1
  refine ⟨h2, ?_⟩
  rw [add_at hl hx hle (fun i hi => hp.1 i (by omega) hi) (fun h2 => hp.2 _ h2 (Nat.le_refl _)), if_pos ⟨h2, h3⟩]
  exact (List.set_eq_take_append_cons_drop.trans (if_pos h2)).symm
theorem add_new {l : List Le} {x : Le} (hl : goodL l = true) (hx : goodX x = true) (h : hasX l x = false) : addL l x = l.take (placeX l x) ++ x :: l.drop (placeX l x) := by
  have hr := (goodL_iff.1 hl).2
  have hp := place_spec (x := x) hr
  have hle := place_le l x
  have h1 := has_is_at hr hle (fun i hi => hp.1 i (by omega) hi) (fun h2 => hp.2 _ h2 (Nat.le_refl _))
  rw [add_at hl hx hle (fun i hi => hp.1 i (by omega) hi) (fun h2 => hp.2 _ h2 (Nat.le_refl _)), if_neg (fun h2 => by rw [h1.2 h2] at h; cases h)]

/-- The log, the entry and the result in their blocks. -/
structure AdR (W : World) (B : Nat) (a : Option Addr) (n c : Nat) (l : List Le) (x : Le) (w : World) : Prop where
  own : OwnLg 26 B w (.slice a n c) l
  g : Cel 1 w W.heap.size (gcE a n c)
  x : Cel 3 w (W.heap.size + 1) (xcE x)
  r : Cel 1 w (W.heap.size + 2) (gcE none 0 0)
  b : Below W.heap.size W w
  hB : W.heap.size + 3 ≤ B
section
variable {W w w' : World} {B : Nat} {a : Option Addr} {n c : Nat} {l : List Le} {x : Le}
theorem AdR.below (h : AdR W B a n c l x w) (hb : Below w.heap.size w w') : AdR W B a n c l x w' :=
  ⟨h.own.below hb, h.g.below hb, h.x.below hb, h.r.below hb, h.b.trans (hb.mono h.b.size), h.hB⟩
theorem AdR.cells (h : AdR W B a n c l x w) : w.cell? ⟨W.heap.size, 0, none⟩ = some (.slice a n c) ∧ w.cell? ⟨W.heap.size + 1, 0, none⟩ = some (.int .i64 x.f) ∧ w.cell? ⟨W.heap.size + 1, 1, none⟩ = some (.int .u64 (x.n : Int)) ∧ w.cell? ⟨W.heap.size + 1, 2, none⟩ = some (.int .u64 (x.t : Int)) ∧ w.cell? ⟨W.heap.size + 2, 0, none⟩ = some (.slice none 0 0) ∧ w.frozen? ⟨W.heap.size + 2, 0, none⟩ = false ∧ w.frozen? ⟨W.heap.size, 0, none⟩ = false :=
  ⟨h.g.c 0 (by decide), h.x.c 0 (by decide), h.x.c 1 (by decide), h.x.c 2 (by decide), h.r.c 0 (by decide), h.r.fz 0, h.g.fz 0⟩
/-- Given. -/
theorem AdR.fin (h : AdR W B a n c l x w) (hn : l.length = n) : (w.setCell ⟨W.heap.size + 2, 0, none⟩ (.slice a n c)).cell? ⟨W.heap.size + 2, 0, none⟩ = some (.slice a n c) ∧ GPost W l n (.returned (gV a n c)) (w.setCell ⟨W.heap.size + 2, 0, none⟩ (.slice a n c)) := by
  have h1 := h.hB
  obtain ⟨-, x3, x4, x5⟩ := put_at h.r h.b (by omega) (by omega) h.own
  exact ⟨x3, a, c, rfl, x4.mono (by omega), hn, x5⟩
end

theorem insert_any {B : Nat} {W : World} {a : Option Addr} {n cap : Nat} {l : List Le} (O : OwnLg 26 B W (.slice a n cap) l) (hn : l.length = n) (hl : n ≤ 1000000) (hB : B ≤ W.heap.size) {k : Nat} (hk : k ≤ n) {x : Le} (hx : OkX x) {V : World} (hV : V = W.alloc (.cells #[.int .i64 x.f, .int .u64 (x.n : Int), .int .u64 (x.t : Int)] 26)) :
    Calls Try.prog 37 #[.slice a n cap, .int .i64 (k : Nat), .slice (some ⟨W.heap.size, 0, none⟩) 1 1] V (InsPost B V (Value.slice a n cap).ownBlock (l.take k ++ x :: l.drop k) (n + 1)) := by
  have C : Cel 3 V W.heap.size (xcE x) := by rw [hV]; exact boxX W x _
  have hb : Below W.heap.size W V := by rw [hV]; exact boxb W _
  have O2 := O.below hb
  have VC : ∀ j u, (xC x)[j]? = some u → V.cell? ⟨W.heap.size, j, none⟩ = some u := fun j u hj => by
    have h3 : j < 3 := by
      rcases Nat.lt_or_ge j 3 with h | h
      · exact h
      · rw [List.getElem?_eq_none (show (xC x).length ≤ j from h)] at hj; cases hj
    rw [C.c j h3, ← hj]
    rcases (show j = 0 ∨ j = 1 ∨ j = 2 by omega) with rfl | rfl | rfl <;> rfl
  have hBV : B ≤ V.heap.size := Nat.le_trans hB hb.size
  rcases Nat.eq_or_lt_of_le hk with e | hlt
  · have h1 := insert_end O2 hn hl hBV hx VC
    rw [List.take_of_length_le (by omega), List.drop_eq_nil_of_le (by omega), e]
    exact h1
  · rcases O.own.2 with ⟨e0, h0⟩ | ⟨b, c2, cur, e0, hb2, hg, -⟩
    · exact absurd h0 (by omega)
    · simp only [Value.slice.injEq] at e0
      obtain ⟨rfl, -, rfl⟩ := e0
      have hbl : b < W.heap.size := (O.own.lt b rfl).2
      by_cases hc : n + 1 ≤ cap
      · exact insert_room O2 hn hl hlt hc hx VC (by omega) (tA := 26) (kA := 3) (by rw [hV]; unfold World.shape?; rw [heap_alloc_new]; rfl) C.fz
      · exact insert_grow O2 hn hl hBV hlt (by omega) hx VC

set_option maxRecDepth 20000 in
set_option maxHeartbeats 8000000 in
theorem add_any {A : Nat → Prop} {W : World} {a : Option Addr} {cap n : Nat} {l : List Le} (h : LgAt A W a cap n l) (hl : n ≤ 100000) {x : Le} (hx : OkX x) {m : Nat} (hm : (addL l x).length = m) :
    Calls Try.prog 13 #[gV a n cap, xV x] W (GPost W (addL l x) m) := by
  obtain ⟨U, hU⟩ : ∃ U, U = ((W.alloc (.cells #[.slice a n cap] 29)).alloc (.cells #[.int .i64 x.f, .int .u64 (x.n : Int), .int .u64 (x.t : Int)] 26)).alloc (.cells #[.slice none 0 0] 29) := ⟨_, rfl⟩
  have s1 : (W.alloc (.cells #[.slice a n cap] 29)).heap.size = W.heap.size + 1 := by simp
  have s2 : ((W.alloc (.cells #[.slice a n cap] 29)).alloc (.cells #[.int .i64 x.f, .int .u64 (x.n : Int), .int .u64 (x.t : Int)] 26)).heap.size = W.heap.size + 2 := by simp
  have C1 : Cel 1 U W.heap.size (gcE a n cap) := by rw [hU]; exact ((boxG W a n cap _).below (boxb _ _)).below (boxb _ _)
  have C2 : Cel 3 U (W.heap.size + 1) (xcE x) := by
    have := (boxX (W.alloc (.cells #[.slice a n cap] 29)) x 26).below (boxb _ (.cells #[.slice none 0 0] 29))
    rw [← hU, s1] at this
    exact this
  have C3 : Cel 1 U (W.heap.size + 2) (gcE none 0 0) := by
    have := boxG ((W.alloc (.cells #[.slice a n cap] 29)).alloc (.cells #[.int .i64 x.f, .int .u64 (x.n : Int), .int .u64 (x.t : Int)] 26)) none 0 0 29
    rw [← hU, s2] at this
    exact this
  have HB := Lib.hid (show Below W.heap.size W U from by rw [hU]; exact below_alloc (below_alloc (boxb W _) _) _)
  have hUs : U.heap.size = W.heap.size + 3 := by rw [hU]; simp
  have c0 : U.cell? ⟨W.heap.size, 0, none⟩ = some (.slice a n cap) := C1.c 0 (by decide)
  have CC := Lib.hid (copied_any (h.below HB.out) (by omega))
  have HN := Lib.hid h.len
  have X1 := Lib.hid C1
  have X2 := Lib.hid C2
  have X3 := Lib.hid C3
  have HU := Lib.hid hU.symm
  have HS := Lib.hid hUs
  have OX := Lib.hid hx
  have HM := Lib.hid hm
  clear hU C1 C2 C3 h s1 s2 hUs hx hm
  have HX := Lib.hid (show xV x = .agg #[.int .i64 x.f, .int .u64 (x.n : Int), .int .u64 (x.t : Int)] from rfl)
  rw [HX.out]
  go_enter Try.func13, Try.ntmps13
  go_upto_region 1 with fail
  rw [HU.out]
  go_wp2_with fail
  refine CC.out.mono ?_
  rintro e w1 ⟨a2, c2, rfl, hO, -, hb⟩
  obtain ⟨⟨x1, x2⟩, x3, x4, x5⟩ := put_res X1.out HB.out (Nat.le_refl _) hb hO
  have hk := (Keep.refl (fun k => k = W.heap.size) w1).put 0 (.slice a2 n c2)
  have R := Lib.hid (show AdR W U.heap.size a2 n c2 l x (w1.setCell ⟨W.heap.size, 0, none⟩ (.slice a2 n c2)) from
    ⟨x4, (((X1.out.below hb).put 0 (.slice a2 n c2))).conv (V2 := gcE a2 n c2) (fun o ho => by rcases (show o = 0 by omega) with rfl; rfl), (X2.out.below hb).keep hk (by omega), (X3.out.below hb).keep hk (by omega), x5, by rw [HS.out]; exact Nat.le_refl _⟩)
  clear x4 x5 hO hb hk c0 CC HU X1 X2 X3
  go_wp2_with fail
  generalize w1.setCell ⟨W.heap.size, 0, none⟩ (.slice a2 n c2) = w2 at *
  clear x1 x2 x3
  refine (tgood_any (R.out.own.at HN.out) rfl).mono ?_
  rintro e w3 ⟨rfl, hb⟩
  have R3 := Lib.hid (R.out.below hb)
  clear hb R
  cases hg : goodL l
  · have HL := Lib.hid (show addL l x = l from addL_no (fun h => by rw [hg] at h; cases h.1))
    obtain ⟨z1, z2, z3, z4, z5, z6, z7⟩ := R3.out.cells
    obtain ⟨y1, y2⟩ := R3.out.fin HN.out
    have R := Lib.hid y2
    clear y2 hg
    go_wp2_with fail
    refine bodyPost_ret (v := gV a2 n c2) (by simp [results, Try.results13, go_sem, y1]) rfl ?_
    have := HM.out
    rw [HL.out, HN.out] at this
    rw [HL.out, ← this]
    exact R.out
  · obtain ⟨z1, z2, z3, z4, z5, z6, z7⟩ := R3.out.cells
    go_wp2_with fail
    refine (may_any OX.out rfl _).mono ?_
    rintro e w4 ⟨rfl, hb⟩
    have R4 := Lib.hid (R3.out.below hb)
    clear hb R3 z1 z2 z3 z4 z5 z6 z7
    obtain ⟨z1, z2, z3, z4, z5, z6, z7⟩ := R4.out.cells
    cases hgx : goodX x
    · have HL := Lib.hid (show addL l x = l from addL_no (fun h => by rw [hgx] at h; cases h.2))
      obtain ⟨y1, y2⟩ := R4.out.fin HN.out
      have R := Lib.hid y2
      clear y2 hg hgx
      go_wp2_with fail
      refine bodyPost_ret (v := gV a2 n c2) (by simp [results, Try.results13, go_sem, y1]) rfl ?_
      have := HM.out
      rw [HL.out, HN.out] at this
      rw [HL.out, ← this]
      exact R.out
    · obtain ⟨k, HK⟩ : ∃ k, Hid (placeX l x = k) := ⟨_, rfl⟩
      have HR := Lib.hid (goodL_iff.1 hg).2
      cases hb : hasX l x
      · have HL := Lib.hid (add_new hg hgx hb)
        have FC := Lib.hid (find_any (R4.out.own.at HN.out) HR.out (by omega) x HK.out hb)
        clear hg hgx hb
        go_wp2_with fail
        refine FC.out.mono ?_
        rintro e w5 ⟨rfl, hb⟩
        have R5 := Lib.hid (R4.out.below hb)
        clear hb R4 z1 z2 z3 z4 z5 z6 z7 FC
        obtain ⟨z1, z2, z3, z4, z5, z6, z7⟩ := R5.out.cells
        have hkn : k ≤ n := by rw [← HK.out, ← HN.out]; exact place_le l x
        obtain ⟨V, hV⟩ : ∃ V, V = w5.alloc (.cells #[.int .i64 x.f, .int .u64 (x.n : Int), .int .u64 (x.t : Int)] 26) := ⟨_, rfl⟩
        have RV := Lib.hid (R5.out.below (show Below w5.heap.size w5 V from by rw [hV]; exact boxb w5 _))
        have hUV : U.heap.size ≤ w5.heap.size := by have := HS.out; have := R5.out.r.lt; omega
        have IC := Lib.hid (insert_any R5.out.own HN.out (by omega) hUV hkn OX.out hV)
        have HV := Lib.hid hV.symm
        clear hV hUV R5
        go_wp2_with fail
        rw [HV.out]
        refine IC.out.mono ?_
        rintro e w6 ⟨a3, c3, rfl, hO, hlen, hk⟩
        have lo : ∀ j, (Value.slice a2 n c2).ownBlock = some j → W.heap.size + 3 ≤ j := fun j e => Nat.le_trans RV.out.hB (RV.out.own.own.lt j e).1
        have g1 := RV.out.g.keep hk (fun e => by have := lo _ e; omega)
        have x1 := RV.out.x.keep hk (fun e => by have := lo _ e; omega)
        have r1 := RV.out.r.keep hk (fun e => by have := lo _ e; omega)
        have b1 : Below W.heap.size W w6 := RV.out.b.trans (hk.below RV.out.b.size (fun k e => by have := lo _ e; omega))
        have hk2 := (Keep.refl (fun k => k = W.heap.size) w6).put 0 (.slice a3 (n + 1) c3)
        obtain ⟨⟨p1, p2⟩, p3, p4, p5⟩ := put_at g1 b1 (Nat.le_refl _) (by have := RV.out.hB; omega) hO
        have R7 := Lib.hid (show AdR W U.heap.size a3 (n + 1) c3 (l.take k ++ x :: l.drop k) x (w6.setCell ⟨W.heap.size, 0, none⟩ (.slice a3 (n + 1) c3)) from
          ⟨p4, (g1.put 0 _).conv (V2 := gcE a3 (n + 1) c3) (fun o ho => by rcases (show o = 0 by omega) with rfl; rfl), x1.keep hk2 (by omega), r1.keep hk2 (by omega), p5, RV.out.hB⟩)
        have HLN := Lib.hid hlen
        clear p4 p5 hO hk g1 x1 r1 b1 hk2 lo hlen z1 z2 z3 z4 z5 z6 z7 RV IC HV
        obtain ⟨w7, hw7⟩ : ∃ w7, w7 = w6.setCell ⟨W.heap.size, 0, none⟩ (.slice a3 (n + 1) c3) := ⟨_, rfl⟩
        rw [← hw7] at R7 p3
        obtain ⟨z1, z2, z3, z4, z5, z6, z7⟩ := R7.out.cells
        rw [hw7] at z5 z6
        obtain ⟨y1, y2⟩ := R7.out.fin HLN.out
        have R := Lib.hid y2
        rw [hw7] at y1 z1 p3 R
        clear y2 z7 hw7
        go_wp2_with fail
        refine bodyPost_ret (v := gV a3 (n + 1) c3) (by simp [results, Try.results13, go_sem, y1]) rfl ?_
        have hmm := HM.out
        have hll := HL.out
        rw [HK.out] at hll
        rw [hll, HLN.out] at hmm
        rw [hll, ← hmm]
        exact R.out
      · have HL := Lib.hid (add_has hg hgx hb)
        have FC := Lib.hid (find_any (R4.out.own.at HN.out) HR.out (by omega) x HK.out hb)
        clear hg hgx hb
        go_wp2_with fail
        refine FC.out.mono ?_
        rintro e w5 ⟨rfl, hb⟩
        have R5 := Lib.hid (R4.out.below hb)
        clear hb R4 z1 z2 z3 z4 z5 z6 z7 FC
        obtain ⟨z1, z2, z3, z4, z5, z6, z7⟩ := R5.out.cells
        have hkn : k < n := by have := HL.out.1; rw [HK.out, HN.out] at this; exact this
        obtain ⟨g, rfl, hUg, hgl, hcs, hfz, hO, hk⟩ := R5.out.own.setX HN.out hkn OX.out
        obtain ⟨u0, q0⟩ := hcs 0 (by decide)
        obtain ⟨u1, q1⟩ := hcs 1 (by decide)
        obtain ⟨u2, q2⟩ := hcs 2 (by decide)
        rw [Nat.add_zero] at q0
        have f0 := hfz (k * 3)
        have i0 : (0 : Int) ≤ (k : Int) := by omega
        have i1 : (k : Int) < (n : Int) := by omega
        have a1 : (w5.setCell ⟨g, k * 3, none⟩ (.int .i64 x.f)).cell? ⟨g, k * 3 + 1, none⟩ = some u1 := (World.cell?_setCell_other _ _ _ _ (by simp)).trans q1
        have b1 : (w5.setCell ⟨g, k * 3, none⟩ (.int .i64 x.f)).frozen? ⟨g, k * 3 + 1, none⟩ = false := (World.frozen?_setCell ..).trans (hfz _)
        have a2 : ((w5.setCell ⟨g, k * 3, none⟩ (.int .i64 x.f)).setCell ⟨g, k * 3 + 1, none⟩ (.int .u64 (x.n : Int))).cell? ⟨g, k * 3 + 2, none⟩ = some u2 := (World.cell?_setCell_other _ _ _ _ (by simp)).trans ((World.cell?_setCell_other _ _ _ _ (by simp)).trans q2)
        have b2 : ((w5.setCell ⟨g, k * 3, none⟩ (.int .i64 x.f)).setCell ⟨g, k * 3 + 1, none⟩ (.int .u64 (x.n : Int))).frozen? ⟨g, k * 3 + 2, none⟩ = false := (World.frozen?_setCell ..).trans ((World.frozen?_setCell ..).trans (hfz _))
        have ew : w5.setCells g (k * 3) (xC x) = ((w5.setCell ⟨g, k * 3, none⟩ (.int .i64 x.f)).setCell ⟨g, k * 3 + 1, none⟩ (.int .u64 (x.n : Int))).setCell ⟨g, k * 3 + 2, none⟩ (.int .u64 (x.t : Int)) := rfl
        rw [ew] at hO hk
        have hgw : W.heap.size + 3 ≤ g := Nat.le_trans R5.out.hB hUg
        have R6 := Lib.hid (show AdR W U.heap.size (some ⟨g, 0, none⟩) n c2 (l.set k x) x (((w5.setCell ⟨g, k * 3, none⟩ (.int .i64 x.f)).setCell ⟨g, k * 3 + 1, none⟩ (.int .u64 (x.n : Int))).setCell ⟨g, k * 3 + 2, none⟩ (.int .u64 (x.t : Int))) from
          ⟨hO, R5.out.g.keep hk (by omega), R5.out.x.keep hk (by omega), R5.out.r.keep hk (by omega), R5.out.b.trans (hk.below R5.out.b.size (fun k e => by omega)), R5.out.hB⟩)
        have HLN := Lib.hid (show (l.set k x).length = n by rw [List.length_set]; exact HN.out)
        obtain ⟨y1, y2⟩ := R6.out.fin HLN.out
        have R := Lib.hid y2
        obtain ⟨t1, t2, t3, t4, t5, t6, t7⟩ := R6.out.cells
        clear y2 t7 t2 t3 t4 hcs hfz hO hk ew R5
        go_wp2_with fail
        refine bodyPost_ret (v := gV (some ⟨g, 0, none⟩) n c2) (by simp [results, Try.results13, go_sem, y1]) rfl ?_
        have hmm := HM.out
        have hll := HL.out.2
        rw [HK.out] at hll
        rw [hll, HLN.out] at hmm
        rw [hll, ← hmm]
        exact R.out

end Go.Proofs.Ytbmpeadoicjpnaa

/-
  slices.IndexFunc, slices.DeleteFunc at entries, with trim.Purge's own question; trim.Purge.
-/
namespace Go.Proofs.Ytbmpeadoicjpnaa
open Go.RowKit Go.Sort

/-- What says nothing. -/
def dropX (l : List Le) (x : Le) : Bool := !keepX l x
theorem dropX_is (l : List Le) (x : Le) : dropX l x = (decide (x.t = 0) && moreX l x) := by
  unfold dropX keepX lastX moreX
  rw [Bool.not_or, Bool.not_not]
  congr 1
  by_cases h : x.t = 0 <;> simp [h]

set_option maxRecDepth 20000 in
set_option maxHeartbeats 4000000 in
theorem ask_any {A : Nat → Prop} {W : World} {a : Option Addr} {cap n gb : Nat} {l : List Le} (h : LgAt A W a cap n l) (hr : Rise l) (hl : n ≤ 1000000) (hc : W.cell? ⟨gb, 0, none⟩ = some (.slice a n cap)) (x : Le) {r : Bool} (hx : dropX l x = r) :
    Calls Try.prog 33 #[xV x, .pointer (some ⟨gb, 0, none⟩)] W fun e w' => e = .returned (.bool r) ∧ Below W.heap.size W w' := by
  rw [dropX_is] at hx
  obtain ⟨U, hU⟩ : ∃ U, U = W.alloc (.cells #[.int .i64 x.f, .int .u64 (x.n : Int), .int .u64 (x.t : Int)] 26) := ⟨_, rfl⟩
  have C : Cel 3 U W.heap.size (xcE x) := by rw [hU]; exact boxX W x _
  have HB := Lib.hid (show Below W.heap.size W U from by rw [hU]; exact boxb W _)
  have c0 : U.cell? ⟨W.heap.size, 0, none⟩ = some (.int .i64 x.f) := C.c 0 (by decide)
  have c1 : U.cell? ⟨W.heap.size, 1, none⟩ = some (.int .u64 (x.n : Int)) := C.c 1 (by decide)
  have c2 : U.cell? ⟨W.heap.size, 2, none⟩ = some (.int .u64 (x.t : Int)) := C.c 2 (by decide)
  have g0 : U.cell? ⟨gb, 0, none⟩ = some (.slice a n cap) := cell_go hc HB.out
  have PC := Lib.hid (passed_any (h.below HB.out) hr hl x rfl)
  have HU := Lib.hid hU.symm
  have HR := Lib.hid hx
  clear hU C hc h hr hx
  have HX := Lib.hid (show xV x = .agg #[.int .i64 x.f, .int .u64 (x.n : Int), .int .u64 (x.t : Int)] from rfl)
  rw [HX.out] at PC ⊢
  clear HX
  generalize moreX l x = mo at *
  generalize x.f = f at *
  generalize x.n = m at *
  generalize x.t = t at *
  by_cases h0 : t = 0
  · obtain rfl : r = mo := by rw [← HR.out, decide_eq_true h0, Bool.true_and]
    have d0 : ((t : Int) == 0) = true := by simpa using h0
    clear HR h0
    go_enter Try.func33, Try.ntmps33
    go_upto_region 1 with fail
    rw [HU.out]
    go_wp2_with fail
    refine PC.out.mono ?_
    rintro e w1 ⟨rfl, hb⟩
    have B := Lib.hid (HB.out.trans (hb.mono HB.out.size))
    clear hb
    go_wp2_with fail
    go_ret
    exact ⟨rfl, B.out⟩
  · obtain rfl : r = false := by rw [← HR.out, decide_eq_false h0, Bool.false_and]
    have d0 : ((t : Int) == 0) = false := by simpa using h0
    clear HR h0
    go_enter Try.func33, Try.ntmps33
    go_upto_region 1 with fail
    rw [HU.out]
    go_wp2_with fail
    go_ret
    exact ⟨rfl, HB.out⟩

/-- The log that is asked of, in its place. -/
structure AskAt (A : Nat → Prop) (w : World) (gb : Nat) (a : Option Addr) (cap n : Nat) (l : List Le) : Prop where
  at_ : LgAt A w a cap n l
  cell : w.cell? ⟨gb, 0, none⟩ = some (.slice a n cap)
theorem AskAt.below {A : Nat → Prop} {w w' : World} {gb : Nat} {a : Option Addr} {cap n : Nat} {l : List Le} (h : AskAt A w gb a cap n l) (hb : Below w.heap.size w w') : AskAt A w' gb a cap n l := ⟨h.at_.below hb, cell_go h.cell hb⟩

def IdxPost (W : World) (l m : List Le) (e : Ending) (w' : World) : Prop :=
  Below W.heap.size W w' ∧ ((e = .returned (.int .i64 (-1)) ∧ ∀ x ∈ m, dropX l x = false) ∨ ∃ k, ∃ h : k < m.length, e = .returned (.int .i64 (k : Nat)) ∧ (∀ i, (hi : i < k) → dropX l (m[i]'(by omega)) = false) ∧ dropX l m[k] = true)

set_option maxRecDepth 20000 in
set_option maxHeartbeats 4000000 in
theorem index_any {A A2 : Nat → Prop} {W : World} {a a2 : Option Addr} {cap n c2 n2 gb : Nat} {l m : List Le} (h : AskAt A W gb a cap n l) (hr : Rise l) (hl : n ≤ 1000000) (h2 : LgAt A2 W a2 c2 n2 m) (hl2 : n2 ≤ 1000000) :
    Calls Try.prog 55 #[.slice a2 n2 c2, .func (.func 33) #[] #[.pointer (some ⟨gb, 0, none⟩)]] W (IdxPost W l m) := by
  have H := Lib.hid h
  have H2 := Lib.hid h2
  have HR := Lib.hid hr
  have HN := Lib.hid h2.len
  clear h h2 hr
  go_enter Try.func55, Try.ntmps55
  go_wp2_with fail
  go_loopw [8] (fun i wr => ∃ k : Nat, k ≤ n2 ∧ i = .int .i64 (k : Nat) ∧ (∀ i, i < k → ∀ h : i < m.length, dropX l m[i] = false) ∧ Below W.heap.size W wr) (fun i _ => n2 - (intOf i).toNat)
  case atStart => exact ⟨0, Nat.zero_le _, rfl, fun i hi => absurd hi (Nat.not_lt_zero _), Below.refl _ _⟩
  case round =>
    obtain ⟨k, hk, rfl, hp, hb⟩ := hrel
    have B := Lib.hid hb
    have P := Lib.hid hp
    clear hp hb
    by_cases hlt : k < n2
    · have hkl : k < m.length := by rw [HN.out]; exact hlt
      have EX := Lib.hid (show m.getD k default = m[k] by rw [List.getD, List.getElem?_eq_getElem hkl]; rfl)
      obtain ⟨b, off, rfl, -, -, x0, x1, x2⟩ := (H2.out.below B.out).cell hlt
      have HK := Lib.hid hkl
      generalize m.getD k default = x at *
      have i0 : (0 : Int) ≤ (k : Int) := by omega
      have i1 : (k : Int) < (n2 : Int) := by omega
      have AC := Lib.hid (ask_any (H.out.below B.out).at_ HR.out hl (H.out.below B.out).cell x rfl)
      have HX := Lib.hid (show xV x = .agg #[.int .i64 x.f, .int .u64 (x.n : Int), .int .u64 (x.t : Int)] from rfl)
      rw [HX.out] at AC
      clear HX
      cases hd : dropX l x
      · have HD := Lib.hid hd
        rw [hd] at AC
        clear hd
        go_wp2_with fail
        refine AC.out.mono ?_
        rintro e w1 ⟨rfl, hb⟩
        have B2 := Lib.hid (B.out.trans (hb.mono B.out.size))
        clear hb x0 x1 x2
        go_wp2_with fail
        go_roundw
        case rel =>
          refine ⟨k + 1, by omega, by go_num, fun i hi hil => ?_, B2.out⟩
          rcases Nat.lt_or_ge i k with h3 | h3
          · exact P.out i h3 hil
          · have : i = k := by omega
            subst this
            have := HD.out
            rw [EX.out] at this
            exact this
        case measure => simp only [intOf]; omega
      · have HD := Lib.hid hd
        rw [hd] at AC
        clear hd
        go_wp2_with fail
        refine AC.out.mono ?_
        rintro e w1 ⟨rfl, hb⟩
        have B2 := Lib.hid (B.out.trans (hb.mono B.out.size))
        clear hb x0 x1 x2
        go_wp2_with fail
        go_ret
        exact ⟨B2.out, Or.inr ⟨k, HK.out, rfl, fun i hi => P.out i hi _, by rw [← EX.out]; exact HD.out⟩⟩
    · go_wp2_with fail
      go_ret
      refine ⟨B.out, Or.inl ⟨rfl, fun x hx => ?_⟩⟩
      obtain ⟨i, hi, rfl⟩ := List.getElem_of_mem hx
      exact P.out i (by rw [HN.out] at hi; omega) hi

theorem clear_three (P : Program) (w : World) (t e ty : TypeId) (ht : P.underlying t = some (.slice e)) (hv : ∀ w, (zeroValue e).run P w = .ok (.agg #[.int .i64 0, .int .u64 0, .int .u64 0]) w) (b o n c : Nat) (hn : 0 < n)
    (hc : ∀ j, j < n * 3 → (w.cell? ⟨b, o + j, none⟩).isSome = true) (hf : ∀ j, j < n * 3 → w.frozen? ⟨b, o + j, none⟩ = false) :
    (Builtin.clear_ #[t] ty #[.slice (some ⟨b, o, none⟩) n c]).run P w = .ok (.tuple #[]) (w.setCells b o (Builtin.zeroCells #[.int .i64 0, .int .u64 0, .int .u64 0] n).toList) := by
  have hl : (Builtin.zeroCells #[.int .i64 0, .int .u64 0, .int .u64 0] n).toList.length = n * 3 := by simp [Builtin.zeroCells]
  have hst := run_storeCells_cells (P := P) b o (Builtin.zeroCells #[.int .i64 0, .int .u64 0, .int .u64 0] n).toList 0 w (by rw [hl]; simpa using hc) (by rw [hl]; simpa using hf) (by
    intro v hv'
    simp only [Builtin.zeroCells, Array.toList_map, List.mem_map] at hv'
    obtain ⟨i, _, rfl⟩ := hv'
    have h2 : i % 3 = 0 ∨ i % 3 = 1 ∨ i % 3 = 2 := by omega
    show ((#[Value.int .i64 0, Value.int .u64 0, Value.int .u64 0] : Array Value)[i % 3]!).oneCell' = true
    rcases h2 with h2 | h2 | h2
    · rw [h2]; rfl
    · rw [h2]; rfl
    · rw [h2]; rfl)
  simp only [Nat.add_zero] at hst
  obtain ⟨m, rfl⟩ : ∃ m, n = m + 1 := ⟨n - 1, by omega⟩
  simp [Builtin.clear_, run_underlying ht, hv, Value.cells, hst]

end Go.Proofs.Ytbmpeadoicjpnaa

/-
  slices.DeleteFunc at entries.
-/
namespace Go.Proofs.Ytbmpeadoicjpnaa
open Go.RowKit Go.Sort

theorem AskAt.keep {A G : Nat → Prop} {w w' : World} {gb : Nat} {a : Option Addr} {cap n : Nat} {l : List Le} (h : AskAt A w gb a cap n l) (hk : Keep G w w') (hA : ∀ k, A k → ¬ G k) (hg : ¬ G gb) : AskAt A w' gb a cap n l :=
  ⟨h.at_.keep hk hA, (hk.cell (p := ⟨gb, 0, none⟩) (cell_lt h.cell) hg).trans h.cell⟩
theorem own_less {w : World} {base : Nat} {e : TypeId} {size g n m cap : Nat} {xs : List Value} (h : w.ownsRow base e size (.slice (some ⟨g, 0, none⟩) n cap) n xs) (hm : m ≤ n) : w.ownsRow base e size (.slice (some ⟨g, 0, none⟩) m cap) m (xs.take (m * size)) := by
  rcases h.2 with ⟨h', _⟩ | ⟨g', cap', cur, h', hb, hg, hnc, hcm, hcs, htake⟩
  · simp at h'
  · simp only [Value.slice.injEq, Option.some.injEq, Addr.mk.injEq, and_true, true_and] at h'
    obtain ⟨rfl, rfl⟩ := h'
    have hmul : m * size ≤ n * size := Nat.mul_le_mul_right _ hm
    have h1 := h.1
    refine ⟨by rw [List.length_take]; omega, .inr ⟨g, cap, cur, rfl, hb, hg, by omega, hcm, hcs, ?_⟩⟩
    rw [← htake, List.take_take, Nat.min_eq_left hmul]
theorem OwnLg.less {T : TypeId} {B : Nat} {w : World} {g n cap : Nat} {l : List Le} (h : OwnLg T B w (.slice (some ⟨g, 0, none⟩) n cap) l) (hn : l.length = n) {m : Nat} (hm : m ≤ n) : OwnLg T B w (.slice (some ⟨g, 0, none⟩) m cap) (l.take m) := by
  have ho := h.own
  rw [hn] at ho
  have := own_less ho hm
  rw [lgC_take] at this
  exact ⟨by rw [List.length_take, hn, Nat.min_eq_left hm]; exact this, fun x hx => h.ok x (List.mem_of_mem_take hx)⟩

theorem drop_next {m r : List Le} {j : Nat} (h : r.drop j = m.drop j) : r.drop (j + 1) = m.drop (j + 1) := by rw [← List.tail_drop, ← List.tail_drop, h]

/-! What is kept so far. -/
structure KeptAt (q : Le → Bool) (m r : List Le) (k j : Nat) : Prop where
  len : r.length = m.length
  kj : k < j
  lo : r.take k = (m.take j).filter q
  hi : r.drop j = m.drop j
section
variable {q : Le → Bool} {m r : List Le} {k j : Nat}
theorem KeptAt.at (h : KeptAt q m r k j) (hj : j < m.length) : r.getD j default = m.getD j default := by
  have h1 := h.hi
  have hl := h.len
  rw [List.drop_eq_getElem_cons hj, List.drop_eq_getElem_cons (by omega)] at h1
  rw [List.getD, List.getD, List.getElem?_eq_getElem hj, List.getElem?_eq_getElem (show j < r.length by omega)]
  exact (List.cons.inj h1).1
theorem KeptAt.skip (h : KeptAt q m r k j) (hj : j < m.length) (hq : q (m.getD j default) = false) : KeptAt q m r k (j + 1) := by
  have e : m.getD j default = m[j] := by rw [List.getD, List.getElem?_eq_getElem hj]; rfl
  rw [e] at hq
  refine ⟨h.len, by have := h.kj; omega, ?_, ?_⟩
  · rw [h.lo, List.take_succ_eq_append_getElem hj, List.filter_append, List.filter_cons_of_neg (by rw [hq]; decide), List.filter_nil, List.append_nil]
  · exact drop_next h.hi
theorem KeptAt.keep (h : KeptAt q m r k j) (hj : j < m.length) (hq : q (m.getD j default) = true) : KeptAt q m (r.set k (m.getD j default)) (k + 1) (j + 1) := by
  have e : m.getD j default = m[j] := by rw [List.getD, List.getElem?_eq_getElem hj]; rfl
  have hk := h.kj
  have hl := h.len
  rw [e] at hq ⊢
  refine ⟨by rw [List.length_set]; exact h.len, by omega, ?_, ?_⟩
  · rw [List.take_set, List.take_succ_eq_append_getElem (show k < r.length by omega), List.set_append_right _ _ (by rw [List.length_take]; omega), List.length_take, Nat.min_eq_left (by omega), Nat.sub_self, List.set_cons_zero, h.lo, List.take_succ_eq_append_getElem hj, List.filter_append, List.filter_cons_of_pos hq, List.filter_nil]
  · rw [List.drop_set_of_lt (by omega)]; exact drop_next h.hi
theorem KeptAt.done (h : KeptAt q m r k j) (hj : m.length ≤ j) : r.take k = m.filter q := by rw [h.lo, List.take_of_length_le hj]
theorem KeptAt.start (hk : k < m.length) (h1 : ∀ i, (hi : i < k) → q (m[i]'(by omega)) = true) (h2 : q m[k] = false) : KeptAt q m m k (k + 1) := by
  refine ⟨rfl, by omega, ?_, rfl⟩
  rw [List.take_succ_eq_append_getElem hk, List.filter_append, List.filter_cons_of_neg (by rw [h2]; decide), List.filter_nil, List.append_nil]
  refine (List.filter_eq_self.2 fun x hx => ?_).symm
  obtain ⟨i, hi, rfl⟩ := List.getElem_of_mem hx
  rw [List.length_take] at hi
  rw [List.getElem_take]
  exact h1 i (by omega)
end

def DelPost (B : Nat) (W : World) (a : Option Addr) (c : Nat) (l : List Le) (n : Nat) (e : Ending) (w' : World) : Prop :=
  e = .returned (.slice a n c) ∧ OwnLg 26 B w' (.slice a n c) l ∧ l.length = n ∧ Keep (fun k => (Value.slice a n c).ownBlock = some k) W w'

/-- What the loop bears. -/
structure DfS (W : World) (B gb : Nat) (a : Option Addr) (cap n : Nat) (l : List Le) (g n2 c2 : Nat) (r : List Le) (wr : World) : Prop where
  own : OwnLg 26 B wr (.slice (some ⟨g, 0, none⟩) n2 c2) r
  ask : AskAt (fun k => k < B) wr gb a cap n l
  k : Keep (fun k => k = g) W wr
  hB : B ≤ g
  hg : gb < B
theorem DfS.below {W w w' : World} {B gb : Nat} {a : Option Addr} {cap n : Nat} {l : List Le} {g n2 c2 : Nat} {r : List Le} (h : DfS W B gb a cap n l g n2 c2 r w) (hb : Below w.heap.size w w') : DfS W B gb a cap n l g n2 c2 r w' :=
  ⟨h.own.below hb, h.ask.below hb, h.k.trans (Keep.ofBelow (F := fun k => k = g) hb) (fun _ _ e => e), h.hB, h.hg⟩

set_option maxRecDepth 20000 in
set_option maxHeartbeats 8000000 in
theorem delete_any {B : Nat} {W : World} {a a2 : Option Addr} {cap n c2 n2 gb : Nat} {l m : List Le} (h : AskAt (fun k => k < B) W gb a cap n l) (hr : Rise l) (hl : n ≤ 1000000) (O : OwnLg 26 B W (.slice a2 n2 c2) m) (hn : m.length = n2) (hl2 : n2 ≤ 1000000) (hg : gb < B) {z : Nat} (hz : (m.filter fun x => !dropX l x).length = z) :
    Calls Try.prog 32 #[.slice a2 n2 c2, .func (.func 33) #[] #[.pointer (some ⟨gb, 0, none⟩)]] W (DelPost B W a2 c2 (m.filter fun x => !dropX l x) z) := by
  have H := Lib.hid h
  have HO := Lib.hid O
  have HR := Lib.hid hr
  have HN := Lib.hid hn
  have HZ := Lib.hid hz
  have IC := Lib.hid (index_any h hr hl (O.at hn) hl2)
  have HF := Lib.hid (O.at hn).fit
  clear h O hr hn hz
  go_enter Try.func32, Try.ntmps32
  go_wp2_with fail
  refine IC.out.mono ?_
  rintro e w1 ⟨hb, ⟨rfl, hall⟩ | ⟨k0, hk0, rfl, hlo, hat⟩⟩
  · have e1 : (m.filter fun x => !dropX l x) = m := List.filter_eq_self.2 (fun x hx => by rw [hall x hx]; rfl)
    have E := Lib.hid e1
    have B1 := Lib.hid hb
    clear hb hall IC e1
    go_wp2_with fail
    go_ret
    have hzz := HZ.out
    rw [E.out, HN.out] at hzz
    rw [E.out, ← hzz]
    exact ⟨rfl, HO.out.below B1.out, HN.out, Keep.ofBelow B1.out⟩
  · have hkn : k0 < n2 := by rw [← HN.out]; exact hk0
    have K0 := Lib.hid (KeptAt.start (q := fun x => !dropX l x) hk0 (fun i hi => by simp only [hlo i hi]; rfl) (by simp only [hat]; rfl))
    obtain ⟨g, rfl, hBg, hgl, -, -, -, -⟩ := HO.out.setX HN.out hkn (x := default) (by unfold OkX IntOk; decide)
    have S0 := Lib.hid (show DfS W B gb a cap n l g n2 c2 m w1 from ⟨HO.out.below hb, H.out.below hb, Keep.ofBelow hb, hBg, hg⟩)
    have hf := HF.out
    unfold maxLen at hf
    have w1k : IntKind.i64.wrap ((k0 : Int) + 1) = (k0 : Int) + 1 := by rw [IntKind.wrap_i64]; omega
    have nk0 : ((k0 : Int) == -1) = false := by simp
    clear hb hlo hat IC HO H
    go_wp2_with fail
    go_loopw [5, 6] (fun i j wr => ∃ (k t : Nat) (r : List Le), i = .int .i64 (k : Nat) ∧ j = .int .i64 (t : Nat) ∧ t ≤ n2 ∧ Hid (KeptAt (fun x => !dropX l x) m r k t) ∧ Hid (DfS W B gb a cap n l g n2 c2 r wr)) (fun _ j _ => n2 - (intOf j).toNat)
    case atStart => exact ⟨k0, k0 + 1, m, rfl, by go_num, by omega, K0, S0⟩
    case round =>
      obtain ⟨k, t, r, rfl, rfl, ht, K, S⟩ := hrel
      have hkt := K.out.kj
      have HL := Lib.hid (show r.length = n2 by rw [K.out.len]; exact HN.out)
      by_cases hlt : t < n2
      · have htm : t < m.length := by rw [HN.out]; exact hlt
        obtain ⟨b', off', eb, -, -, x0, x1, x2⟩ := (S.out.own.at HL.out).cell hlt
        cases eb
        rw [K.out.at htm, Nat.zero_add] at x0 x1 x2
        have OX := Lib.hid (show OkX (m.getD t default) from by
          have := (S.out.own.at HL.out).okAt hlt
          rw [K.out.at htm] at this
          exact this)
        have KS := Lib.hid (K.out.skip htm)
        have KK := Lib.hid (K.out.keep htm)
        generalize m.getD t default = x at *
        have i0 : (0 : Int) ≤ (t : Int) := by omega
        have i1 : (t : Int) < (n2 : Int) := by omega
        have j0 : (0 : Int) ≤ (k : Int) := by omega
        have j1 : (k : Int) < (n2 : Int) := by omega
        have hkn2 : k < n2 := by omega
        have wt : IntKind.i64.wrap ((t : Int) + 1) = (t : Int) + 1 := by rw [IntKind.wrap_i64]; omega
        have wk : IntKind.i64.wrap ((k : Int) + 1) = (k : Int) + 1 := by rw [IntKind.wrap_i64]; omega
        obtain ⟨V, hV⟩ : ∃ V, V = wr.alloc (.cells #[.int .i64 x.f, .int .u64 (x.n : Int), .int .u64 (x.t : Int)] 26) := ⟨_, rfl⟩
        have C : Cel 3 V wr.heap.size (xcE x) := by rw [hV]; exact boxX wr x _
        have SV := Lib.hid (S.out.below (show Below wr.heap.size wr V by rw [hV]; exact boxb wr _))
        have CX := Lib.hid C
        have c0 : V.cell? ⟨wr.heap.size, 0, none⟩ = some (.int .i64 x.f) := C.c 0 (by decide)
        have c1 : V.cell? ⟨wr.heap.size, 1, none⟩ = some (.int .u64 (x.n : Int)) := C.c 1 (by decide)
        have c2' : V.cell? ⟨wr.heap.size, 2, none⟩ = some (.int .u64 (x.t : Int)) := C.c 2 (by decide)
        have HV := Lib.hid hV.symm
        have AC := Lib.hid (ask_any SV.out.ask.at_ HR.out hl SV.out.ask.cell x rfl)
        have HX := Lib.hid (show xV x = .agg #[.int .i64 x.f, .int .u64 (x.n : Int), .int .u64 (x.t : Int)] from rfl)
        rw [HX.out] at AC
        clear HX hV C
        cases hd : dropX l x
        · have KN := Lib.hid (KK.out (by simp only [hd]; rfl))
          rw [hd] at AC
          clear hd KS KK htm
          go_upto_region 8 with fail
          rw [HV.out]
          go_wp2_with fail
          refine AC.out.mono ?_
          rintro e w2 ⟨rfl, hb⟩
          have S2 := Lib.hid (SV.out.below hb)
          have C2 := CX.out.below hb
          have d0 : w2.cell? ⟨wr.heap.size, 0, none⟩ = some (.int .i64 x.f) := C2.c 0 (by decide)
          have d1 : w2.cell? ⟨wr.heap.size, 1, none⟩ = some (.int .u64 (x.n : Int)) := C2.c 1 (by decide)
          have d2 : w2.cell? ⟨wr.heap.size, 2, none⟩ = some (.int .u64 (x.t : Int)) := C2.c 2 (by decide)
          obtain ⟨g', eg, hUg, hgl2, hcs, hfz, hO, hk⟩ := S2.out.own.setX HL.out hkn2 OX.out
          cases eg
          obtain ⟨u0, q0⟩ := hcs 0 (by decide)
          obtain ⟨u1, q1⟩ := hcs 1 (by decide)
          obtain ⟨u2, q2⟩ := hcs 2 (by decide)
          rw [Nat.add_zero] at q0
          have f0 := hfz (k * 3)
          have a1 : (w2.setCell ⟨g, k * 3, none⟩ (.int .i64 x.f)).cell? ⟨g, k * 3 + 1, none⟩ = some u1 := (World.cell?_setCell_other _ _ _ _ (by simp)).trans q1
          have b1 : (w2.setCell ⟨g, k * 3, none⟩ (.int .i64 x.f)).frozen? ⟨g, k * 3 + 1, none⟩ = false := (World.frozen?_setCell ..).trans (hfz _)
          have a2 : ((w2.setCell ⟨g, k * 3, none⟩ (.int .i64 x.f)).setCell ⟨g, k * 3 + 1, none⟩ (.int .u64 (x.n : Int))).cell? ⟨g, k * 3 + 2, none⟩ = some u2 := (World.cell?_setCell_other _ _ _ _ (by simp)).trans ((World.cell?_setCell_other _ _ _ _ (by simp)).trans q2)
          have b2 : ((w2.setCell ⟨g, k * 3, none⟩ (.int .i64 x.f)).setCell ⟨g, k * 3 + 1, none⟩ (.int .u64 (x.n : Int))).frozen? ⟨g, k * 3 + 2, none⟩ = false := (World.frozen?_setCell ..).trans ((World.frozen?_setCell ..).trans (hfz _))
          have ew : w2.setCells g (k * 3) (xC x) = ((w2.setCell ⟨g, k * 3, none⟩ (.int .i64 x.f)).setCell ⟨g, k * 3 + 1, none⟩ (.int .u64 (x.n : Int))).setCell ⟨g, k * 3 + 2, none⟩ (.int .u64 (x.t : Int)) := rfl
          rw [ew] at hO hk
          have S3 := Lib.hid (show DfS W B gb a cap n l g n2 c2 (r.set k x) (((w2.setCell ⟨g, k * 3, none⟩ (.int .i64 x.f)).setCell ⟨g, k * 3 + 1, none⟩ (.int .u64 (x.n : Int))).setCell ⟨g, k * 3 + 2, none⟩ (.int .u64 (x.t : Int))) from
            ⟨hO, S2.out.ask.keep hk (fun j hj e => by omega) (by omega), S2.out.k.trans hk (fun _ _ e => e), hBg, hg⟩)
          clear hcs hfz hO hk ew S2 C2 hb SV CX AC x0 x1 x2 c0 c1 c2'
          go_wp2_with fail
          go_roundw
          case rel => exact ⟨k + 1, t + 1, r.set k x, by go_num, by go_num, by omega, KN, S3⟩
          case measure => simp only [intOf]; omega
        · have KN := Lib.hid (KS.out (by simp only [hd]; rfl))
          rw [hd] at AC
          clear hd KS KK htm
          go_upto_region 8 with fail
          rw [HV.out]
          go_wp2_with fail
          refine AC.out.mono ?_
          rintro e w2 ⟨rfl, hb⟩
          have S2 := Lib.hid (SV.out.below hb)
          clear hb SV CX AC x0 x1 x2 c0 c1 c2'
          go_wp2_with fail
          go_roundw
          case rel => exact ⟨k, t + 1, r, rfl, by go_num, by omega, KN, S2⟩
          case measure => simp only [intOf]; omega
      · obtain rfl : t = n2 := by omega
        have E := Lib.hid (K.out.done (by rw [HN.out]; exact Nat.le_refl _))
        have OO : wr.ownsRow B 26 3 (.slice (some ⟨g, 0, none⟩) t c2) t (lgC r) := by have := S.out.own.own; rw [HL.out] at this; exact this
        have hrl : (lgC r).length = t * 3 := by rw [lgC_len, HL.out]
        have hcl : ∀ ty, (Builtin.clear_ #[27] ty #[.slice (some ⟨g, k * 3, none⟩) (t - k) (c2 - k)]).run Try.prog wr = .ok (.tuple #[]) (wr.setCells g (k * 3) (Builtin.zeroCells #[.int .i64 0, .int .u64 0, .int .u64 0] (t - k)).toList) := fun ty =>
          clear_three Try.prog wr 27 26 ty Try.underlying27 Try.zeroValue26 g (k * 3) (t - k) (c2 - k) (by omega)
            (fun j hj => by rw [OO.cellAt (k * 3 + j) (by omega), List.getElem?_eq_getElem (by omega)]; rfl) (fun j hj => OO.frozenAt _)
        have hZl : (Builtin.zeroCells #[.int .i64 0, .int .u64 0, .int .u64 0] (t - k)).toList.length = (t - k) * 3 := by simp [Builtin.zeroCells]
        generalize (Builtin.zeroCells #[.int .i64 0, .int .u64 0, .int .u64 0] (t - k)).toList = Z at *
        obtain ⟨O2, K2⟩ := own_sets Z _ (k * 3) wr OO
        have O3 := own_less O2 (show k ≤ t by omega)
        rw [setL_eq _ _ _ (by omega), List.append_assoc, List.take_append_of_le_length (by rw [List.length_take]; omega), List.take_take, Nat.min_self, lgC_take] at O3
        have hkl : (r.take k).length = k := by rw [List.length_take, HL.out]; omega
        have R := Lib.hid (show DelPost B W (some ⟨g, 0, none⟩) c2 (m.filter fun x => !dropX l x) z (.returned (.slice (some ⟨g, 0, none⟩) k c2)) (wr.setCells g (k * 3) Z) from by
          have hzz := HZ.out
          rw [← E.out, hkl] at hzz
          rw [← E.out, ← hzz]
          refine ⟨rfl, ⟨by rw [hkl]; exact O3, fun x hx => S.out.own.ok x (List.mem_of_mem_take hx)⟩, hkl, ?_⟩
          exact (S.out.k.trans K2 (fun _ _ e => e)).mono (fun j e => by rw [e]; rfl))
        have n1 : ¬ (c2 = k) := by have := own_fits OO; omega
        have k0' : (0 : Int) ≤ (k : Int) := by omega
        have k1' : (k : Int) ≤ (t : Int) := by omega
        have k2' : (k : Int) ≤ (c2 : Int) := by have := own_fits OO; omega
        have k3' : (t : Int) ≤ (c2 : Int) := by have := own_fits OO; omega
        clear O2 K2 O3 OO hrl hZl hkl
        go_wp2_with fail
        go_ret
        exact R.out

end Go.Proofs.Ytbmpeadoicjpnaa

/-
  trim.Purge.
-/
namespace Go.Proofs.Ytbmpeadoicjpnaa
open Go.RowKit Go.Sort

theorem OwnLg.carry {T : TypeId} {B : Nat} {w w' : World} {s : Value} {l : List Le} (h : OwnLg T B w s l) (hb : ∀ k, s.ownBlock = some k → w'.heap[k]? = w.heap[k]?) : OwnLg T B w' s l := ⟨own_carry h.own hb, h.ok⟩
theorem purge_keep {l : List Le} (h : goodL l = true) : purgeL l = l.filter fun x => !dropX l x := by
  unfold purgeL dropX
  rw [if_pos h]
  simp

set_option maxRecDepth 20000 in
set_option maxHeartbeats 8000000 in
theorem purge_any {A : Nat → Prop} {W : World} {a : Option Addr} {cap n : Nat} {l : List Le} (h : LgAt A W a cap n l) (hl : n ≤ 1000000) {m : Nat} (hm : (purgeL l).length = m) :
    Calls Try.prog 11 #[gV a n cap] W (GPost W (purgeL l) m) := by
  obtain ⟨U, hU⟩ : ∃ U, U = (W.alloc (.cells #[.slice a n cap] 29)).alloc (.cells #[.slice none 0 0] 29) := ⟨_, rfl⟩
  have C1 : Cel 1 U W.heap.size (gcE a n cap) := by rw [hU]; exact (boxG W a n cap _).below (boxb _ _)
  have C2 : Cel 1 U (W.heap.size + 1) (gcE none 0 0) := by
    have := boxG (W.alloc (.cells #[.slice a n cap] 29)) none 0 0 29
    rw [← hU, show (W.alloc (.cells #[.slice a n cap] 29)).heap.size = W.heap.size + 1 by simp] at this
    exact this
  have HB := Lib.hid (show Below W.heap.size W U from by rw [hU]; exact below_alloc (boxb W _) _)
  have HS := Lib.hid (show U.heap.size = W.heap.size + 2 by rw [hU]; simp)
  have c0 : U.cell? ⟨W.heap.size, 0, none⟩ = some (.slice a n cap) := C1.c 0 (by decide)
  have CC := Lib.hid (copied_any (h.below HB.out) hl)
  have L := Lib.hid ((h.mono (A' := fun k => k < U.heap.size) (fun k hk _ => Nat.lt_of_lt_of_le hk HB.out.size)).below HB.out)
  have HN := Lib.hid h.len
  have X1 := Lib.hid C1
  have X2 := Lib.hid C2
  have HU := Lib.hid hU.symm
  have HM := Lib.hid hm
  clear hU C1 C2 h hm
  go_enter Try.func11, Try.ntmps11
  go_upto_region 1 with fail
  rw [HU.out]
  go_wp2_with fail
  refine CC.out.mono ?_
  rintro e w1 ⟨a2, c2, rfl, hO, -, hb⟩
  obtain ⟨V, hV⟩ : ∃ V, V = w1.alloc (.cells #[.slice a2 n c2] 29) := ⟨_, rfl⟩
  have bV : Below w1.heap.size w1 V := by rw [hV]; exact boxb w1 _
  have bUV : Below U.heap.size U V := hb.trans (bV.mono hb.size)
  have PV := Lib.hid (show Cel 1 V w1.heap.size (gcE a2 n c2) by rw [hV]; exact boxG w1 a2 n c2 _)
  have OV := Lib.hid (hO.below bV)
  have OL := Lib.hid (show ∀ k, (Value.slice a2 n c2).ownBlock = some k → U.heap.size ≤ k ∧ k < w1.heap.size from fun k e => hO.own.lt k e)
  have GV := Lib.hid (X1.out.below bUV)
  have RV := Lib.hid (X2.out.below bUV)
  have LV := Lib.hid (L.out.below bUV)
  have BV := Lib.hid (HB.out.trans (bUV.mono HB.out.size))
  have US := Lib.hid hb.size
  have HV := Lib.hid hV.symm
  have v0 : V.cell? ⟨W.heap.size, 0, none⟩ = some (.slice a n cap) := GV.out.c 0 (by decide)
  clear hO hb bV bUV hV CC HU X1 X2 c0 L
  go_upto_region 2 with fail
  rw [HV.out]
  go_wp2_with fail
  refine (tgood_any LV.out rfl).mono ?_
  rintro e w2 ⟨rfl, hb⟩
  have O2 := Lib.hid (OV.out.below hb)
  have P2 := Lib.hid (PV.out.below hb)
  have G2 := Lib.hid (GV.out.below hb)
  have R2 := Lib.hid (RV.out.below hb)
  have L2 := Lib.hid (LV.out.below hb)
  have B2 := Lib.hid (BV.out.trans (hb.mono BV.out.size))
  have p0 : w2.cell? ⟨w1.heap.size, 0, none⟩ = some (.slice a2 n c2) := P2.out.c 0 (by decide)
  clear hb OV PV GV RV LV BV v0 HV
  cases hg : goodL l
  · have HL := Lib.hid (show purgeL l = l from if_neg (by rw [hg]; decide))
    obtain ⟨⟨x1, x2⟩, x3, x4, x5⟩ := put_at R2.out B2.out (Nat.le_succ _) (by have := HS.out; omega) O2.out
    have R := Lib.hid (And.intro x4 x5)
    clear x4 x5 hg
    go_wp2_with fail
    refine bodyPost_ret (v := gV a2 n c2) (by simp [results, Try.results11, go_sem, x3]) rfl ?_
    have hmm := HM.out
    rw [HL.out, HN.out] at hmm
    rw [HL.out, ← hmm]
    exact ⟨a2, c2, rfl, R.out.1.mono HB.out.size, HN.out, R.out.2⟩
  · have HL := Lib.hid (purge_keep hg)
    have hmm := HM.out
    rw [HL.out] at hmm
    have DC := Lib.hid (delete_any ⟨L2.out, G2.out.c 0 (by decide)⟩ (goodL_iff.1 hg).2 hl O2.out HN.out hl (by have := HS.out; omega) hmm)
    clear hg hmm
    go_wp2_with fail
    refine DC.out.mono ?_
    rintro e w3 ⟨rfl, hO, hlen, hk⟩
    have lo : ∀ j, (Value.slice a2 m c2).ownBlock = some j → U.heap.size ≤ j ∧ j < w1.heap.size := fun j e => OL.out j (by rw [← e]; cases a2 <;> rfl)
    have nlo : ∀ j, (j < U.heap.size ∨ j = w1.heap.size) → ¬ (Value.slice a2 m c2).ownBlock = some j := fun j hj e => by have := lo j e; omega
    have P3 := P2.out.keep hk (nlo _ (Or.inr rfl))
    have R3 := R2.out.keep hk (nlo _ (Or.inl (by have := HS.out; omega)))
    have B3 : Below W.heap.size W w3 := B2.out.trans (hk.below B2.out.size (fun k e => by have := lo k e; have := HS.out; omega))
    have K4 := (Keep.refl (fun k => k = w1.heap.size) w3).put 0 (.slice a2 m c2)
    have P4 := P3.put 0 (.slice a2 m c2)
    have R4 := R3.keep K4 (by have := HS.out; have := US.out; omega)
    have O4 : OwnLg 26 U.heap.size (w3.setCell ⟨w1.heap.size, 0, none⟩ (.slice a2 m c2)) (.slice a2 m c2) (l.filter fun x => !dropX l x) := hO.carry (fun k e => K4.block k (hO.own.lt k e).2 (by have := lo k e; omega))
    have B4 : Below W.heap.size W (w3.setCell ⟨w1.heap.size, 0, none⟩ (.slice a2 m c2)) := B3.setCell (by have := HS.out; have := US.out; exact (by omega : W.heap.size ≤ w1.heap.size)) _
    have q1 : w3.cell? ⟨w1.heap.size, 0, none⟩ = some (.slice a2 n c2) := P3.c 0 (by decide)
    have q2 := P3.fz 0
    have q3 : (w3.setCell ⟨w1.heap.size, 0, none⟩ (.slice a2 m c2)).cell? ⟨w1.heap.size, 0, none⟩ = some (.slice a2 m c2) := P4.c 0 (by decide)
    obtain ⟨⟨x1, x2⟩, x3, x4, x5⟩ := put_at R4 B4 (Nat.le_succ _) (by have := HS.out; omega) O4
    have R := Lib.hid (And.intro x4 x5)
    have HLN := Lib.hid hlen
    clear x4 x5 hO hlen hk lo nlo P3 R3 B3 K4 P4 R4 O4 B4
    go_wp2_with fail
    refine bodyPost_ret (v := gV a2 m c2) (by simp [results, Try.results11, go_sem, x3]) rfl ?_
    rw [HL.out]
    exact ⟨a2, c2, rfl, R.out.1.mono HB.out.size, HLN.out, R.out.2⟩

end Go.Proofs.Ytbmpeadoicjpnaa
