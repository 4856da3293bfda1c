/-
  Texts of this claim, put together.
-/
import Derived.Test.YtbmpeadoicjpnaaHshm
import Derived.Test.YtbmpeadoicjpnaaMaj
import Derived.Test.YtbmpeadoicjpnaaMad

/-
  slices.SortFunc at entries, over a row of one's own.
-/
namespace Go.Proofs.Ytbmpeadoicjpnaa
open Go.RowKit Go.Sort

theorem flat_lg (l : List Le) : (flatK xC 3 l.toArray).toList = lgC l := by
  refine List.ext_getElem? fun t => ?_
  rcases Nat.lt_or_ge t (l.length * 3) with h | h
  · have hi : t / 3 < l.length := by omega
    have h1 : (flatK xC 3 l.toArray).toList[t]? = some ((xC (l.toArray)[t / 3]!)[t % 3]!) := by
      rw [← get_flatK xC 3 l.toArray t (by simpa using h)]
      rw [Array.getElem?_toList, Array.getElem?_eq_getElem (by simpa using h), getElem!_pos _ t (by simpa using h)]
    rw [h1]
    have e : l.toArray[t / 3]! = l[t / 3] := by rw [getElem!_pos _ _ (by simpa using hi)]; rfl
    rw [e]
    obtain ⟨g0, g1, g2⟩ := lgC_at (t / 3) l hi
    obtain h3 | h3 | h3 : t % 3 = 0 ∨ t % 3 = 1 ∨ t % 3 = 2 := by omega
    · rw [h3]; have : t = t / 3 * 3 := by omega
      rw [this.symm] at g0; rw [g0]; rfl
    · rw [h3]; have : t = t / 3 * 3 + 1 := by omega
      rw [this.symm] at g1; rw [g1]; rfl
    · rw [h3]; have : t = t / 3 * 3 + 2 := by omega
      rw [this.symm] at g2; rw [g2]; rfl
  · rw [List.getElem?_eq_none (by simpa using h), List.getElem?_eq_none (by rw [lgC_len]; exact h)]
theorem own_holds {w : World} {base : Nat} {e : TypeId} {g n cap : Nat} {l : List Le} (h : w.ownsRow base e 3 (.slice (some ⟨g, 0, none⟩) n cap) n (lgC l)) (hl : l.length = n) : HoldsK xC 3 w g 0 l.toArray := by
  intro j hj
  have hj' : j < n * 3 := by simpa [hl] using hj
  rw [Nat.zero_add]
  refine ⟨?_, h.frozenAt j⟩
  rw [h.cellAt j hj', ← flat_lg, Array.getElem?_toList, Array.getElem?_eq_getElem hj, getElem!_pos _ j hj]
  rfl
theorem own_putK {w : World} {base : Nat} {e : TypeId} {g n cap q : Nat} {os : Array Obj} {l l' : List Le} (h : w.ownsRow base e 3 (.slice (some ⟨g, 0, none⟩) n cap) n (lgC l)) (hl : l'.length = n) :
    (sortWorldK xC 3 w g 0 q l'.toArray os).ownsRow base e 3 (.slice (some ⟨g, 0, none⟩) n cap) n (lgC l') ∧ Keep (fun k => k = g) w (sortWorldK xC 3 w g 0 q l'.toArray os) := by
  rcases h.2 with ⟨e0, _⟩ | ⟨g', cap', cur, e0, hb, hg, hn, hm, hs, ht⟩
  · cases e0
  · injection e0 with e1 _ e3
    injection e1 with e1
    injection e1 with e1
    subst e1; subst e3
    have hgl : g < w.heap.size := (Array.getElem?_eq_some_iff.1 hg).1
    have hF : (flatK xC 3 l'.toArray).size = n * 3 := by simp [hl]
    refine ⟨⟨by rw [lgC_len, hl], .inr ⟨g, cap, putCells id 0 (flatK xC 3 l'.toArray) cur, rfl, hb, ?_, hn, hm, by simpa [putCells] using hs, ?_⟩⟩, ⟨rfl, rfl, rfl, ?_, ?_⟩⟩
    · show (((Sort.ahead w q).heap.modify g (onCells (putCells id 0 (flatK xC 3 l'.toArray)))) ++ os)[g]? = _
      rw [Array.getElem?_append_left (by simpa [Sort.ahead] using hgl), Array.getElem?_modify]
      simp [Sort.ahead, hg, onCells]
    · rw [← flat_lg]
      refine List.ext_getElem? fun j => ?_
      rw [List.getElem?_take]
      by_cases hj : j < n * 3
      · have hjc : j < cur.size := by have := Nat.mul_le_mul_right 3 hn; omega
        rw [if_pos hj, Array.getElem?_toList, Array.getElem?_toList]
        simp only [putCells, Array.getElem?_mapIdx, Array.getElem?_eq_getElem hjc, Option.map_some]
        rw [if_pos ⟨Nat.zero_le _, by omega⟩, Nat.sub_zero, Array.getElem?_eq_getElem (by omega), getElem!_pos _ j (by omega)]
        rfl
      · rw [if_neg hj, Array.getElem?_toList, Array.getElem?_eq_none (by omega)]
    · show w.heap.size ≤ (((Sort.ahead w q).heap.modify g (onCells (putCells id 0 (flatK xC 3 l'.toArray)))) ++ os).size
      simp [Sort.ahead]
    · intro k hk hne
      show (((Sort.ahead w q).heap.modify g (onCells (putCells id 0 (flatK xC 3 l'.toArray)))) ++ os)[k]? = _
      rw [Array.getElem?_append_left (by simpa [Sort.ahead] using hk), Array.getElem?_modify]
      simp [Sort.ahead, show g ≠ k from fun e => hne e.symm]

theorem swo_ord : SWO (ltOf ordX) where
  irrefl x := by
    unfold ltOf
    exact decide_eq_false (fun h => by rw [ord_lt, ahead_self] at h; cases h)
  trans x y z h1 h2 := by
    unfold ltOf at *
    have h1 := ord_lt.1 (of_decide_eq_true h1)
    have h2 := ord_lt.1 (of_decide_eq_true h2)
    exact decide_eq_true (ord_lt.2 (ahead_trans h1 h2))
  ntrans x y z h1 h2 := by
    unfold ltOf at *
    have h1 := of_decide_eq_false h1
    have h2 := of_decide_eq_false h2
    rw [ord_lt, ahead_iff] at h1 h2
    exact decide_eq_false (fun h => by rw [ord_lt, ahead_iff] at h; omega)

def SortPost (B : Nat) (W : World) (a : Option Addr) (c n : Nat) (l : List Le) (e : Ending) (w' : World) : Prop :=
  e = .returned (.tuple #[]) ∧ ∃ l', l'.Perm l ∧ l'.Pairwise (fun x y => aheadX y x = false) ∧ OwnLg 26 B w' (.slice a n c) l' ∧ Keep (fun k => (Value.slice a n c).ownBlock = some k) W w'

theorem isAgg_e (w : World) : (isAgg 26).run Try.prog w = .ok true w := by kernel_rfl
theorem sizeOf_e (w : World) : (Go.sizeOf 26).run Try.prog w = .ok 3 w := by kernel_rfl

theorem sort_any {B : Nat} {W : World} {a : Option Addr} {n c : Nat} {l : List Le} (O : OwnLg 26 B W (.slice a n c) l) (hn : l.length = n) (hl : n ≤ 1000000) :
    Calls Try.prog 38 #[.slice a n c, .func (.func 39) #[] #[]] W (SortPost B W a c n l) := by
  have ho := O.own
  rw [hn] at ho
  rcases ho.2 with ⟨e0, h0⟩ | ⟨g, c2, cur, e0, hb, hg, -⟩
  · simp only [Value.slice.injEq] at e0
    obtain ⟨rfl, rfl, rfl⟩ := e0
    have := AnyF.slices_SortFunc_none Try.sortL none 0 (.func (.func 39) #[] #[]) W
    refine this.mono ?_
    rintro e w' ⟨rfl, rfl⟩
    obtain rfl : l = [] := List.length_eq_zero_iff.1 hn
    exact ⟨rfl, [], List.Perm.nil, List.Pairwise.nil, O, Keep.refl _ _⟩
  · simp only [Value.slice.injEq, true_and] at e0
    obtain ⟨rfl, rfl⟩ := e0
    have eg : ∀ args w, (callFunc 39 args).run Try.prog w = .ok (.enter 39 args) w := Go.Proofs.enters_of Try.func39 (by kernel_rfl) rfl
    have hs : l.toArray.size = n := by simpa using hn
    have hcon := AnyQ.slices_SortFunc Try.sortL 3 isAgg_e sizeOf_e xC (fun _ => rfl) (fun x => xC_one x) ordX swo_ord 39 #[] g 0 c l.toArray W eg
      (fun m os dk _ x y => order_any x y _) (own_holds ho hn) (ho.lt g rfl).2 (by rw [hs]; omega)
    rw [hs] at hcon
    refine Calls.mono hcon ?_
    rintro e w' ⟨rfl, d', q, os, hp, hso, rfl⟩
    have hsz : d'.size = n := hp.1.trans hs
    have hperm : d'.toList.Perm l := by
      have := hp.2.2
      rw [← hs] at this
      rw [Array.extract_size, hp.1.symm, Array.extract_size] at this
      simpa using this
    have hsorted : d'.toList.Pairwise (fun x y => aheadX y x = false) := by
      rw [List.pairwise_iff_getElem]
      intro i j hi hj hij
      have := hso i j (Nat.zero_le _) hij (by simpa [hsz] using hj)
      rw [getElem!_pos d' i (by simpa using hi), getElem!_pos d' j (by simpa using hj)] at this
      unfold ltOf at this
      rw [Bool.eq_false_iff]
      intro h3
      exact of_decide_eq_false this (ord_lt.2 h3)
    obtain ⟨h1, h2⟩ := own_putK (q := q) (os := os) (l' := d'.toList) ho (by simpa using hsz)
    have ed : d'.toList.toArray = d' := by simp
    rw [ed] at h1 h2
    exact ⟨rfl, d'.toList, hperm, hsorted, ⟨by rw [show d'.toList.length = n by simpa using hsz]; exact h1, fun x hx => O.ok x (hperm.subset hx)⟩, h2.mono (fun k e => by rw [e]; rfl)⟩

end Go.Proofs.Ytbmpeadoicjpnaa

/-
  trim.Join.
-/
namespace Go.Proofs.Ytbmpeadoicjpnaa
open Go.RowKit Go.Sort

/-- What Join bears: both logs in their boxes, the result's block, and what is put together, in block p. -/
structure JnS (W : World) (B p : Nat) (a1 : Option Addr) (n1 c1 : Nat) (l1 : List Le) (a2 : Option Addr) (n2 c2 : Nat) (l2 r : List Le) (wr : World) : Prop where
  ex : ∃ sa sc, Cel 1 wr p (gcE sa r.length sc) ∧ OwnLg 26 B wr (.slice sa r.length sc) r
  g : Cel 1 wr W.heap.size (gcE a1 n1 c1)
  h : Cel 1 wr (W.heap.size + 1) (gcE a2 n2 c2)
  res : Cel 1 wr (W.heap.size + 2) (gcE none 0 0)
  l1 : LgAt (fun k => k < W.heap.size) wr a1 c1 n1 l1
  l2 : LgAt (fun k => k < W.heap.size) wr a2 c2 n2 l2
  b : Below W.heap.size W wr
  hp : W.heap.size + 3 ≤ p
  hB : p < B
  lt : B ≤ wr.heap.size
section
variable {W w w' : World} {B p : Nat} {a1 : Option Addr} {n1 c1 : Nat} {l1 : List Le} {a2 : Option Addr} {n2 c2 : Nat} {l2 r : List Le}
theorem JnS.below (s : JnS W B p a1 n1 c1 l1 a2 n2 c2 l2 r w) (hb : Below w.heap.size w w') : JnS W B p a1 n1 c1 l1 a2 n2 c2 l2 r w' := by
  obtain ⟨sa, sc, h1, h2⟩ := s.ex
  exact ⟨⟨sa, sc, h1.below hb, h2.below hb⟩, s.g.below hb, s.h.below hb, s.res.below hb, s.l1.below hb, s.l2.below hb, s.b.trans (hb.mono s.b.size), s.hp, s.hB, Nat.le_trans s.lt hb.size⟩
theorem JnS.push {m : Nat} {sa a3 : Option Addr} {sc c3 : Nat} {x : Le} (s : JnS W B p a1 n1 c1 l1 a2 n2 c2 l2 r w) (hm : m = r.length) (P : Cel 1 w p (gcE sa m sc)) (O : OwnLg 26 B w (.slice sa m sc) r) (hx : OkX x) (hown : w'.ownsRow B 26 3 (.slice a3 (m + 1) c3) (m + 1) (lgC r ++ xC x)) (hgr : w.grownBy w' (Value.slice sa m sc).ownBlock) :
    w'.cell? ⟨p, 0, none⟩ = some (.slice sa m sc) ∧ w'.frozen? ⟨p, 0, none⟩ = false ∧ JnS W B p a1 n1 c1 l1 a2 n2 c2 l2 (r ++ [x]) (w'.setCell ⟨p, 0, none⟩ (.slice a3 (m + 1) c3)) := by
  subst hm
  have hk : Keep (fun k => B ≤ k) w w' := (Keep.refl _ w).grown hgr (fun k e => Or.inl (O.own.lt k e).1)
  have hp := s.hp
  have hB := s.hB
  have P2 := P.keep hk (by omega)
  have k2 := (Keep.refl (fun k => k = p) w').put 0 (.slice a3 (r.length + 1) c3)
  have O2 : OwnLg 26 B w' (.slice a3 (r.length + 1) c3) (r ++ [x]) := O.push hx hown
  refine ⟨P2.c 0 (by decide), P2.fz 0, ⟨⟨a3, c3, ?_, ?_⟩, ?_, ?_, ?_, ?_, ?_, ?_, hp, hB, ?_⟩⟩
  · rw [List.length_append]
    exact (P2.put 0 _).conv (fun o ho => by rcases (show o = 0 by omega) with rfl; rfl)
  · rw [List.length_append]
    exact O2.put hB 0 _
  · exact (s.g.keep hk (by omega)).keep k2 (by omega)
  · exact (s.h.keep hk (by omega)).keep k2 (by omega)
  · exact (s.res.keep hk (by omega)).keep k2 (by omega)
  · exact (s.l1.keep hk (fun k h => by omega)).keep k2 (fun k h => by omega)
  · exact (s.l2.keep hk (fun k h => by omega)).keep k2 (fun k h => by omega)
  · exact (s.b.trans (hk.below s.b.size (fun k e => by omega))).setCell (by exact (by omega : W.heap.size ≤ p)) _
  · exact Nat.le_trans s.lt (Nat.le_trans hk.size k2.size)
end

set_option maxRecDepth 20000 in
set_option maxHeartbeats 8000000 in
theorem join_any {A1 A2 : Nat → Prop} {W : World} {a1 a2 : Option Addr} {n1 c1 n2 c2 : Nat} {l1 l2 : List Le} (h1 : LgAt A1 W a1 c1 n1 l1) (h2 : LgAt A2 W a2 c2 n2 l2) (hl1 : n1 ≤ 100000) (hl2 : n2 ≤ 100000) {m : Nat} (hm : (joinG l1 l2).length = m) :
    Calls Try.prog 14 #[gV a1 n1 c1, gV a2 n2 c2] W (GPost W (joinG l1 l2) m) := by
  obtain ⟨iT, hi0, hz0, hz1, hz2⟩ := info_x Try.infoT
  obtain ⟨U, hU⟩ : ∃ U, U = ((W.alloc (.cells #[.slice a1 n1 c1] 29)).alloc (.cells #[.slice a2 n2 c2] 29)).alloc (.cells #[.slice none 0 0] 29) := ⟨_, rfl⟩
  have s1 : (W.alloc (.cells #[.slice a1 n1 c1] 29)).heap.size = W.heap.size + 1 := by simp
  have s2 : ((W.alloc (.cells #[.slice a1 n1 c1] 29)).alloc (.cells #[.slice a2 n2 c2] 29)).heap.size = W.heap.size + 2 := by simp
  have C1 : Cel 1 U W.heap.size (gcE a1 n1 c1) := by rw [hU]; exact ((boxG W a1 n1 c1 _).below (boxb _ _)).below (boxb _ _)
  have C2 : Cel 1 U (W.heap.size + 1) (gcE a2 n2 c2) := by
    have := (boxG (W.alloc (.cells #[.slice a1 n1 c1] 29)) a2 n2 c2 29).below (boxb _ (.cells #[.slice none 0 0] 29))
    rw [← hU, s1] at this
    exact this
  have C3 : Cel 1 U (W.heap.size + 2) (gcE none 0 0) := by
    have := boxG ((W.alloc (.cells #[.slice a1 n1 c1] 29)).alloc (.cells #[.slice a2 n2 c2] 29)) none 0 0 29
    rw [← hU, s2] at this
    exact this
  have HB := Lib.hid (show Below W.heap.size W U from by rw [hU]; exact below_alloc (below_alloc (boxb W _) _) _)
  have HS := Lib.hid (show U.heap.size = W.heap.size + 3 by rw [hU]; simp)
  have c0 : U.cell? ⟨W.heap.size, 0, none⟩ = some (.slice a1 n1 c1) := C1.c 0 (by decide)
  have L1 := Lib.hid ((h1.mono (A' := fun k => k < W.heap.size) (fun k hk _ => hk)).below HB.out)
  have L2 := Lib.hid ((h2.mono (A' := fun k => k < W.heap.size) (fun k hk _ => hk)).below HB.out)
  have HM := Lib.hid hm
  have X1 := Lib.hid C1
  have X2 := Lib.hid C2
  have X3 := Lib.hid C3
  have HU := Lib.hid hU.symm
  clear hU C1 C2 C3 s1 s2 h1 h2 hm
  go_enter Try.func14, Try.ntmps14
  go_upto_region 1 with fail
  rw [HU.out]
  go_wp2_with fail
  refine (tgood_any L1.out rfl).mono ?_
  rintro e w1 ⟨rfl, hb⟩
  have M1 := Lib.hid (L1.out.below hb)
  have M2 := Lib.hid (L2.out.below hb)
  have Y1 := Lib.hid (X1.out.below hb)
  have Y2 := Lib.hid (X2.out.below hb)
  have Y3 := Lib.hid (X3.out.below hb)
  have YB := Lib.hid (HB.out.trans (hb.mono HB.out.size))
  have d0 : w1.cell? ⟨W.heap.size, 0, none⟩ = some (.slice a1 n1 c1) := Y1.out.c 0 (by decide)
  have d1 : w1.cell? ⟨W.heap.size + 1, 0, none⟩ = some (.slice a2 n2 c2) := Y2.out.c 0 (by decide)
  clear hb L1 L2 X1 X2 X3 HB HU c0
  cases hg1 : goodL l1
  · have HL := Lib.hid (show joinG l1 l2 = l1 from join_no (fun h => by rw [hg1] at h; cases h.1))
    have CC := Lib.hid (copied_any M1.out (by omega))
    have HN := Lib.hid M1.out.len
    clear hg1
    go_wp2_with fail
    refine CC.out.mono ?_
    rintro e w2 ⟨a3, c3, rfl, hO, -, hb⟩
    obtain ⟨⟨x1, x2⟩, x3, x4, x5⟩ := put_res Y3.out YB.out (by omega) hb hO
    have R := Lib.hid (And.intro x4 x5)
    clear x4 x5 hO hb
    go_wp2_with fail
    refine bodyPost_ret (v := gV a3 n1 c3) (by simp [results, Try.results14, go_sem, x3]) rfl ?_
    have hmm := HM.out
    rw [HL.out, HN.out] at hmm
    rw [HL.out, ← hmm]
    exact ⟨a3, c3, rfl, R.out.1.mono YB.out.size, HN.out, R.out.2⟩
  · have GO := Lib.hid hg1
    clear hg1
    go_wp2_with fail
    refine (tgood_any M2.out rfl).mono ?_
    rintro e w2 ⟨rfl, hb⟩
    have N1 := Lib.hid (M1.out.below hb)
    have N2 := Lib.hid (M2.out.below hb)
    have Z1 := Lib.hid (Y1.out.below hb)
    have Z2 := Lib.hid (Y2.out.below hb)
    have Z3 := Lib.hid (Y3.out.below hb)
    have ZB := Lib.hid (YB.out.trans (hb.mono YB.out.size))
    have e0 : w2.cell? ⟨W.heap.size, 0, none⟩ = some (.slice a1 n1 c1) := Z1.out.c 0 (by decide)
    clear hb M1 M2 Y1 Y2 Y3 YB d0 d1
    cases hg2 : goodL l2
    · have HL := Lib.hid (show joinG l1 l2 = l1 from join_no (fun h => by rw [hg2] at h; cases h.2))
      have CC := Lib.hid (copied_any N1.out (by omega))
      have HN := Lib.hid N1.out.len
      clear hg2
      go_wp2_with fail
      refine CC.out.mono ?_
      rintro e w3 ⟨a3, c3, rfl, hO, -, hb⟩
      obtain ⟨⟨x1, x2⟩, x3, x4, x5⟩ := put_res Z3.out ZB.out (by omega) hb hO
      have R := Lib.hid (And.intro x4 x5)
      clear x4 x5 hO hb
      go_wp2_with fail
      refine bodyPost_ret (v := gV a3 n1 c3) (by simp [results, Try.results14, go_sem, x3]) rfl ?_
      have hmm := HM.out
      rw [HL.out, HN.out] at hmm
      rw [HL.out, ← hmm]
      exact ⟨a3, c3, rfl, R.out.1.mono ZB.out.size, HN.out, R.out.2⟩
    · have GH := Lib.hid hg2
      clear hg2
      obtain ⟨V0, hV0⟩ : ∃ V0, V0 = w2.alloc (.cells #[.slice none 0 0] 29) := ⟨_, rfl⟩
      have b0 : Below w2.heap.size w2 V0 := by rw [hV0]; exact boxb w2 _
      have P0 : Cel 1 V0 w2.heap.size (gcE none 0 0) := by rw [hV0]; exact boxG w2 none 0 0 _
      have S0 := Lib.hid (show JnS W V0.heap.size w2.heap.size a1 n1 c1 l1 a2 n2 c2 l2 [] V0 from
        ⟨⟨none, 0, P0, OwnLg.nil _⟩, Z1.out.below b0, Z2.out.below b0, Z3.out.below b0, N1.out.below b0, N2.out.below b0, ZB.out.trans (b0.mono ZB.out.size), by have := Z3.out.lt; omega, P0.lt, Nat.le_refl _⟩)
      have f0 : V0.cell? ⟨W.heap.size, 0, none⟩ = some (.slice a1 n1 c1) := S0.out.g.c 0 (by decide)
      have HV0 := Lib.hid hV0.symm
      clear hV0 b0 P0 Z1 Z2 Z3 ZB N1 N2 e0
      go_upto_region 4 with fail
      rw [HV0.out]
      clear HV0
      generalize w2.heap.size = p at *
      generalize V0.heap.size = B at *
      go_wp2_with fail
      clear f0
      go_loopw [27] (fun i wr => ∃ k : Nat, k ≤ n1 ∧ i = .int .i64 (k : Nat) ∧ JnS W B p a1 n1 c1 l1 a2 n2 c2 l2 ((l1.take k).filterMap (ownX l2)) wr) (fun i _ => n1 - (intOf i).toNat)
      case atStart => exact ⟨0, Nat.zero_le _, rfl, S0.out⟩
      case round =>
        clear S0
        obtain ⟨k, hk, rfl, hS⟩ := hrel
        have S := Lib.hid hS
        clear hS
        by_cases hlt : k < n1
        · have hkl : k < l1.length := by rw [S.out.l1.len]; exact hlt
          obtain ⟨b, off, rfl, -, -, x0, x1, x2⟩ := S.out.l1.cell hlt
          have OX := Lib.hid (S.out.l1.okAt hlt)
          have FN := Lib.hid (filt_next (f := ownX l2) hkl)
          clear hkl
          generalize l1.getD k default = x at *
          have i0 : (0 : Int) ≤ (k : Int) := by omega
          have i1 : (k : Int) < (n1 : Int) := by omega
          obtain ⟨V, hV⟩ : ∃ V, V = wr.alloc (.cells #[.int .i64 x.f, .int .u64 (x.n : Int), .int .u64 (x.t : Int)] 26) := ⟨_, rfl⟩
          have hbV : Below wr.heap.size wr V := by rw [hV]; exact boxb wr _
          have SV := Lib.hid (S.out.below hbV)
          have CX := Lib.hid (show Cel 3 V wr.heap.size (xcE x) by rw [hV]; exact boxX wr x _)
          have BV := Lib.hid hbV
          have c0 : V.cell? ⟨wr.heap.size, 0, none⟩ = some (.int .i64 x.f) := CX.out.c 0 (by decide)
          have c1' : V.cell? ⟨wr.heap.size, 1, none⟩ = some (.int .u64 (x.n : Int)) := CX.out.c 1 (by decide)
          have c2' : V.cell? ⟨wr.heap.size, 2, none⟩ = some (.int .u64 (x.t : Int)) := CX.out.c 2 (by decide)
          have h0 : V.cell? ⟨W.heap.size + 1, 0, none⟩ = some (.slice a2 n2 c2) := SV.out.h.c 0 (by decide)
          have HV := Lib.hid hV.symm
          have HX := Lib.hid (show xV x = .agg #[.int .i64 x.f, .int .u64 (x.n : Int), .int .u64 (x.t : Int)] from rfl)
          have FC := Lib.hid (find_any SV.out.l2 (goodL_iff.1 GH.out).2 (by omega) x rfl rfl)
          rw [HX.out] at FC
          clear hbV hV
          go_upto_region 7 with fail
          rw [HV.out]
          go_wp2_with fail
          refine FC.out.mono ?_
          rintro e w2 ⟨rfl, hb⟩
          have B2 := Lib.hid (BV.out.trans (hb.mono BV.out.size))
          have C2 := Lib.hid (CX.out.below hb)
          clear hb c0 c1' c2' h0 FC SV CX BV HV x0 x1 x2
          have S2 := Lib.hid (S.out.below B2.out)
          have d0 : w2.cell? ⟨wr.heap.size, 0, none⟩ = some (.int .i64 x.f) := C2.out.c 0 (by decide)
          have d1 : w2.cell? ⟨wr.heap.size, 1, none⟩ = some (.int .u64 (x.n : Int)) := C2.out.c 1 (by decide)
          have d2 : w2.cell? ⟨wr.heap.size, 2, none⟩ = some (.int .u64 (x.t : Int)) := C2.out.c 2 (by decide)
          have g0 : w2.cell? ⟨W.heap.size + 1, 0, none⟩ = some (.slice a2 n2 c2) := S2.out.h.c 0 (by decide)
          cases hf : findX l2 x
          · have hh : hasX l2 x = false := by unfold hasX; rw [hf]; rfl
            rw [hh]
            obtain ⟨pl, hpl⟩ : ∃ pl, placeX l2 x = pl := ⟨_, rfl⟩
            rw [hpl]
            have PC := Lib.hid (passed_any S2.out.l2 (goodL_iff.1 GH.out).2 (by omega) x rfl)
            rw [HX.out] at PC
            cases hm : moreX l2 x
            · have FE := Lib.hid (show ownX l2 x = some x by rw [ownX_no hf, hm]; rfl)
              rw [hm] at PC
              clear hf hh hpl hm
              go_wp2_with fail
              refine PC.out.mono ?_
              rintro e w3 ⟨rfl, hb⟩
              have B3 := Lib.hid (B2.out.trans (hb.mono B2.out.size))
              have S3 := Lib.hid (S.out.below B3.out)
              have CX3 := Lib.hid (C2.out.below hb)
              clear hb S2 B2 C2 d0 d1 d2 g0 PC
              have OXX := Lib.hid (show OkX ⟨x.f, x.n, x.t⟩ from OX.out)
              have RL := Lib.hid (show ((l1.take k).filterMap (ownX l2)).length + 1 ≤ 100000000 from by have := filt_le (ownX l2) (l1.take k); rw [List.length_take, S.out.l1.len] at this; omega)
              have RE := Lib.hid (show ((l1.take k).filterMap (ownX l2)) ++ [x] = ((l1.take (k + 1)).filterMap (ownX l2)) from by rw [FN.out, FE.out]; rfl)
              clear FN FE
              generalize ((l1.take k).filterMap (ownX l2)) = r at *
              have rl := RL.out
              obtain ⟨sa, sc, hP, hO⟩ := S3.out.ex
              have bV2 : Below w3.heap.size w3 (w3.alloc (.cells #[.int .i64 x.f, .int .u64 (x.n : Int), .int .u64 (x.t : Int)] 26)) := boxb w3 _
              have S4 := Lib.hid (S3.out.below bV2)
              have OO := Lib.hid (show (w3.alloc (.cells #[.int .i64 x.f, .int .u64 (x.n : Int), .int .u64 (x.t : Int)] 26)).ownsRow B 26 3 (.slice sa r.length sc) r.length (lgC r) from (hO.below bV2).own)
              have OR := Lib.hid (hO.below bV2)
              have NW := Lib.hid (ent_cells w3 ⟨x.f, x.n, x.t⟩ 26)
              have p0 : w3.cell? ⟨p, 0, none⟩ = some (.slice sa r.length sc) := hP.c 0 (by decide)
              have x0 : w3.cell? ⟨wr.heap.size, 0, none⟩ = some (.int .i64 x.f) := CX3.out.c 0 (by decide)
              have x1 : w3.cell? ⟨wr.heap.size, 1, none⟩ = some (.int .u64 (x.n : Int)) := CX3.out.c 1 (by decide)
              have x2 : w3.cell? ⟨wr.heap.size, 2, none⟩ = some (.int .u64 (x.t : Int)) := CX3.out.c 2 (by decide)
              have P4 := Lib.hid (hP.below bV2)
              have hBs : B ≤ (w3.alloc (.cells #[.int .i64 x.f, .int .u64 (x.n : Int), .int .u64 (x.t : Int)] 26)).heap.size := Nat.le_trans S3.out.lt bV2.size
              clear hP hO bV2
              obtain ⟨m, hm⟩ : ∃ m, m = r.length := ⟨_, rfl⟩
              rw [← hm] at OO OR p0 P4
              have HMM := Lib.hid hm
              have rl2 : m + 1 ≤ 100000000 := by rw [hm]; exact rl
              clear hm
              go_wp2_with (at_builtin; refine wpList_append_at rfl (.tmp 56) (.tmp 58) 27 rfl B 26 iT (.agg #[.int .i64 0, .int .u64 0, .int .u64 0]) 3 24 Try.underlying27 hi0 hz0 hz1 hz2 rfl (by decide) _ _ _ rfl OO.out _ 1 1 (xC ⟨x.f, x.n, x.t⟩) rfl rfl (fun e => by cases e) NW.out (xC_one _) (by unfold maxLen; omega) (by omega) hBs ?_
                           intro v2 w4 hown2 hgr2 hat2
                           obtain ⟨a3, c3, rfl⟩ := own_form hown2
                           obtain ⟨y1, y2, y3⟩ := JnS.push S4.out HMM.out P4.out OR.out OXX.out hown2 hgr2
                           have S5 := Lib.hid y3
                           clear hown2 hgr2 hat2 y3)
              go_roundw
              case rel => exact ⟨k + 1, by omega, by go_num, by rw [← RE.out]; exact S5.out⟩
              case measure => simp only [intOf]; omega
            · have FE := Lib.hid (show ownX l2 x = none by rw [ownX_no hf, hm]; rfl)
              rw [hm] at PC
              clear hf hh hpl hm
              go_wp2_with fail
              refine PC.out.mono ?_
              rintro e w3 ⟨rfl, hb⟩
              have B3 := Lib.hid (B2.out.trans (hb.mono B2.out.size))
              have S3 := Lib.hid (S.out.below B3.out)
              have RE := Lib.hid (show ((l1.take k).filterMap (ownX l2)) = ((l1.take (k + 1)).filterMap (ownX l2)) from by rw [FN.out, FE.out]; exact (List.append_nil _).symm)
              clear hb S2 B2 C2 d0 d1 d2 g0 PC FN FE
              go_wp2_with fail
              go_roundw
              case rel => exact ⟨k + 1, by omega, by go_num, by rw [← RE.out]; exact S3.out⟩
              case measure => simp only [intOf]; omega
          · rename_i y
            have hh : hasX l2 x = true := by unfold hasX; rw [hf]; rfl
            have FPL := find_place (goodL_iff.1 GH.out).2 hf
            have FE := Lib.hid (show ownX l2 x = some ⟨x.f, x.n, x.t &&& y.t⟩ from ownX_has hf)
            rw [hh]
            obtain ⟨pl, hpl⟩ : ∃ pl, placeX l2 x = pl := ⟨_, rfl⟩
            rw [hpl] at FPL ⊢
            obtain ⟨hpn, hpy⟩ := FPL
            have hpn2 : pl < n2 := by rw [← S.out.l2.len]; exact hpn
            obtain ⟨b2, off2, rfl, -, -, y0, y1, y2⟩ := S2.out.l2.cell hpn2
            have OY := (S2.out.l2.okAt hpn2).2.2
            rw [hpy] at y0 y1 y2 OY
            have OXT := OX.out.2.2
            have e1 := u64_and_nat x.t y.t OXT OY
            have OXX := Lib.hid (show OkX ⟨x.f, x.n, x.t &&& y.t⟩ from ⟨OX.out.1, OX.out.2.1, Nat.lt_of_le_of_lt Nat.and_le_left OXT⟩)
            have j0 : (0 : Int) ≤ (pl : Int) := by omega
            have j1 : (pl : Int) < (n2 : Int) := by omega
            clear hf hh hpl hpn hpy OXT OY y0 y1
            generalize x.t &&& y.t = nt at *
            have m2 : w2.drew.cell? ⟨wr.heap.size, 2, none⟩ = some (.int .u64 (x.t : Int)) := d2
            have m3 : w2.drew.frozen? ⟨wr.heap.size, 2, none⟩ = false := C2.out.fz 2
            have m4 : w2.drew.cell? ⟨W.heap.size + 1, 0, none⟩ = some (.slice (some ⟨b2, off2, none⟩) n2 c2) := g0
            have m5 : w2.drew.cell? ⟨b2, off2 + pl * 3 + 2, none⟩ = some (.int .u64 (y.t : Int)) := y2
            have B3 := Lib.hid (show Below wr.heap.size wr (w2.drew.setCell ⟨wr.heap.size, 2, none⟩ (.int .u64 (nt : Int))) from (B2.out.trans ((drew_below w2).mono B2.out.size)).setCell (Nat.le_refl _) _)
            have CX3 := Lib.hid ((C2.out.drew.put 2 (.int .u64 (nt : Int))).conv (V2 := xcE ⟨x.f, x.n, nt⟩) (fun o ho => by rcases (show o = 0 ∨ o = 1 ∨ o = 2 by omega) with rfl | rfl | rfl <;> rfl))
            have RL := Lib.hid (show ((l1.take k).filterMap (ownX l2)).length + 1 ≤ 100000000 from by have := filt_le (ownX l2) (l1.take k); rw [List.length_take, S.out.l1.len] at this; omega)
            have RE := Lib.hid (show ((l1.take k).filterMap (ownX l2)) ++ [⟨x.f, x.n, nt⟩] = ((l1.take (k + 1)).filterMap (ownX l2)) from by rw [FN.out, FE.out]; rfl)
            clear FN FE
            generalize ((l1.take k).filterMap (ownX l2)) = r at *
            have rl := RL.out
            go_wp2_with fail
            go_region_law (fail)
            all_goals
              obtain ⟨w3, hw3⟩ : ∃ w3, w3 = (w2.setCell ⟨wr.heap.size, 2, none⟩ (.int .u64 (nt : Int))).drew := ⟨_, rfl⟩
              rw [show w2.drew.setCell ⟨wr.heap.size, 2, none⟩ (.int .u64 (nt : Int)) = w3 from hw3.symm] at B3 CX3
              rw [← hw3]
              have S3 := Lib.hid (S.out.below B3.out)
              clear hw3 m2 m3 m4 m5 y2 d0 d1 d2 g0 S2 B2 C2 e1
              obtain ⟨sa, sc, hP, hO⟩ := S3.out.ex
              have bV2 : Below w3.heap.size w3 (w3.alloc (.cells #[.int .i64 x.f, .int .u64 (x.n : Int), .int .u64 (nt : Int)] 26)) := boxb w3 _
              have S4 := Lib.hid (S3.out.below bV2)
              have OO := Lib.hid (show (w3.alloc (.cells #[.int .i64 x.f, .int .u64 (x.n : Int), .int .u64 (nt : Int)] 26)).ownsRow B 26 3 (.slice sa r.length sc) r.length (lgC r) from (hO.below bV2).own)
              have OR := Lib.hid (hO.below bV2)
              have NW := Lib.hid (ent_cells w3 ⟨x.f, x.n, nt⟩ 26)
              have p0 : w3.cell? ⟨p, 0, none⟩ = some (.slice sa r.length sc) := hP.c 0 (by decide)
              have x0 : w3.cell? ⟨wr.heap.size, 0, none⟩ = some (.int .i64 x.f) := CX3.out.c 0 (by decide)
              have x1 : w3.cell? ⟨wr.heap.size, 1, none⟩ = some (.int .u64 (x.n : Int)) := CX3.out.c 1 (by decide)
              have x2 : w3.cell? ⟨wr.heap.size, 2, none⟩ = some (.int .u64 (nt : Int)) := CX3.out.c 2 (by decide)
              have P4 := Lib.hid (hP.below bV2)
              have hBs : B ≤ (w3.alloc (.cells #[.int .i64 x.f, .int .u64 (x.n : Int), .int .u64 (nt : Int)] 26)).heap.size := Nat.le_trans S3.out.lt bV2.size
              clear hP hO bV2
              obtain ⟨m, hm⟩ : ∃ m, m = r.length := ⟨_, rfl⟩
              rw [← hm] at OO OR p0 P4
              have HMM := Lib.hid hm
              have rl2 : m + 1 ≤ 100000000 := by rw [hm]; exact rl
              clear hm
              go_wp2_with (at_builtin; refine wpList_append_at rfl (.tmp 56) (.tmp 58) 27 rfl B 26 iT (.agg #[.int .i64 0, .int .u64 0, .int .u64 0]) 3 24 Try.underlying27 hi0 hz0 hz1 hz2 rfl (by decide) _ _ _ rfl OO.out _ 1 1 (xC ⟨x.f, x.n, nt⟩) rfl rfl (fun e => by cases e) NW.out (xC_one _) (by unfold maxLen; omega) (by omega) hBs ?_
                           intro v2 w4 hown2 hgr2 hat2
                           obtain ⟨a3, c3, rfl⟩ := own_form hown2
                           obtain ⟨y1, y2, y3⟩ := JnS.push S4.out HMM.out P4.out OR.out OXX.out hown2 hgr2
                           have S5 := Lib.hid y3
                           clear hown2 hgr2 hat2 y3)
              go_roundw
              case rel => exact ⟨k + 1, by omega, by go_num, by rw [← RE.out]; exact S5.out⟩
              case measure => simp only [intOf]; omega
        · obtain rfl : k = n1 := by omega
          have SE := Lib.hid (show JnS W B p a1 k c1 l1 a2 n2 c2 l2 (l1.filterMap (ownX l2)) wr from by
            have := S.out
            rw [List.take_of_length_le (by rw [S.out.l1.len]; exact Nat.le_refl _)] at this
            exact this)
          have f1 : wr.cell? ⟨W.heap.size + 1, 0, none⟩ = some (.slice a2 n2 c2) := SE.out.h.c 0 (by decide)
          have dk : decide ((k : Int) < (k : Int)) = false := decide_eq_false (by omega)
          obtain ⟨n1, rfl⟩ : ∃ n1, n1 = k := ⟨_, rfl⟩
          clear S
          go_wp2_with fail
          clear f1 dk
          go_loopw [65] (fun i wr => ∃ k : Nat, k ≤ n2 ∧ i = .int .i64 (k : Nat) ∧ JnS W B p a1 n1 c1 l1 a2 n2 c2 l2 (l1.filterMap (ownX l2) ++ (l2.take k).filterMap (heardX l1)) wr) (fun i _ => n2 - (intOf i).toNat)
          case atStart => exact ⟨0, Nat.zero_le _, rfl, by rw [List.take_zero, List.filterMap_nil, List.append_nil]; exact SE.out⟩
          case round =>
            clear SE
            obtain ⟨k, hk, rfl, hS⟩ := hrel
            have S := Lib.hid hS
            clear hS
            by_cases hlt : k < n2
            · have hkl : k < l2.length := by rw [S.out.l2.len]; exact hlt
              obtain ⟨b, off, rfl, -, -, x0, x1, x2⟩ := S.out.l2.cell hlt
              have OX := Lib.hid (S.out.l2.okAt hlt)
              have FN := Lib.hid (filt_next (f := heardX l1) hkl)
              clear hkl
              generalize l2.getD k default = x at *
              have i0 : (0 : Int) ≤ (k : Int) := by omega
              have i1 : (k : Int) < (n2 : Int) := by omega
              obtain ⟨V, hV⟩ : ∃ V, V = wr.alloc (.cells #[.int .i64 x.f, .int .u64 (x.n : Int), .int .u64 (x.t : Int)] 26) := ⟨_, rfl⟩
              have hbV : Below wr.heap.size wr V := by rw [hV]; exact boxb wr _
              have SV := Lib.hid (S.out.below hbV)
              have CX := Lib.hid (show Cel 3 V wr.heap.size (xcE x) by rw [hV]; exact boxX wr x _)
              have BV := Lib.hid hbV
              have c0 : V.cell? ⟨wr.heap.size, 0, none⟩ = some (.int .i64 x.f) := CX.out.c 0 (by decide)
              have c1' : V.cell? ⟨wr.heap.size, 1, none⟩ = some (.int .u64 (x.n : Int)) := CX.out.c 1 (by decide)
              have c2' : V.cell? ⟨wr.heap.size, 2, none⟩ = some (.int .u64 (x.t : Int)) := CX.out.c 2 (by decide)
              have h0 : V.cell? ⟨W.heap.size, 0, none⟩ = some (.slice a1 n1 c1) := SV.out.g.c 0 (by decide)
              have HV := Lib.hid hV.symm
              have HX := Lib.hid (show xV x = .agg #[.int .i64 x.f, .int .u64 (x.n : Int), .int .u64 (x.t : Int)] from rfl)
              have FC := Lib.hid (find_any SV.out.l1 (goodL_iff.1 GO.out).2 (by omega) x rfl rfl)
              rw [HX.out] at FC
              clear hbV hV
              go_upto_region 16 with fail
              rw [HV.out]
              go_wp2_with fail
              refine FC.out.mono ?_
              rintro e w2 ⟨rfl, hb⟩
              have B2 := Lib.hid (BV.out.trans (hb.mono BV.out.size))
              have C2 := Lib.hid (CX.out.below hb)
              clear hb c0 c1' c2' h0 FC SV CX BV HV x0 x1 x2
              have S2 := Lib.hid (S.out.below B2.out)
              have d0 : w2.cell? ⟨wr.heap.size, 0, none⟩ = some (.int .i64 x.f) := C2.out.c 0 (by decide)
              have d1 : w2.cell? ⟨wr.heap.size, 1, none⟩ = some (.int .u64 (x.n : Int)) := C2.out.c 1 (by decide)
              have d2 : w2.cell? ⟨wr.heap.size, 2, none⟩ = some (.int .u64 (x.t : Int)) := C2.out.c 2 (by decide)
              have g0 : w2.cell? ⟨W.heap.size, 0, none⟩ = some (.slice a1 n1 c1) := S2.out.g.c 0 (by decide)
              cases hf : findX l1 x
              · have hh : hasX l1 x = false := by unfold hasX; rw [hf]; rfl
                rw [hh]
                obtain ⟨pl, hpl⟩ : ∃ pl, placeX l1 x = pl := ⟨_, rfl⟩
                rw [hpl]
                have PC := Lib.hid (passed_any S2.out.l1 (goodL_iff.1 GO.out).2 (by omega) x rfl)
                rw [HX.out] at PC
                cases hm : moreX l1 x
                · have FE := Lib.hid (show heardX l1 x = some x by unfold heardX; rw [hf, hm]; rfl)
                  rw [hm] at PC
                  clear hf hh hpl hm
                  go_wp2_with fail
                  refine PC.out.mono ?_
                  rintro e w3 ⟨rfl, hb⟩
                  have B3 := Lib.hid (B2.out.trans (hb.mono B2.out.size))
                  have S3 := Lib.hid (S.out.below B3.out)
                  have CX3 := Lib.hid (C2.out.below hb)
                  clear hb S2 B2 C2 d0 d1 d2 g0 PC
                  have OXX := Lib.hid (show OkX ⟨x.f, x.n, x.t⟩ from OX.out)
                  have RL := Lib.hid (show (l1.filterMap (ownX l2) ++ (l2.take k).filterMap (heardX l1)).length + 1 ≤ 100000000 from by have h1 := filt_le (ownX l2) l1; have h2 := filt_le (heardX l1) (l2.take k); rw [List.length_take, S.out.l2.len] at h2; rw [S.out.l1.len] at h1; rw [List.length_append]; omega)
                  have RE := Lib.hid (show (l1.filterMap (ownX l2) ++ (l2.take k).filterMap (heardX l1)) ++ [x] = (l1.filterMap (ownX l2) ++ (l2.take (k + 1)).filterMap (heardX l1)) from by rw [FN.out, FE.out, List.append_assoc]; rfl)
                  clear FN FE
                  generalize (l1.filterMap (ownX l2) ++ (l2.take k).filterMap (heardX l1)) = r at *
                  have rl := RL.out
                  obtain ⟨sa, sc, hP, hO⟩ := S3.out.ex
                  have bV2 : Below w3.heap.size w3 (w3.alloc (.cells #[.int .i64 x.f, .int .u64 (x.n : Int), .int .u64 (x.t : Int)] 26)) := boxb w3 _
                  have S4 := Lib.hid (S3.out.below bV2)
                  have OO := Lib.hid (show (w3.alloc (.cells #[.int .i64 x.f, .int .u64 (x.n : Int), .int .u64 (x.t : Int)] 26)).ownsRow B 26 3 (.slice sa r.length sc) r.length (lgC r) from (hO.below bV2).own)
                  have OR := Lib.hid (hO.below bV2)
                  have NW := Lib.hid (ent_cells w3 ⟨x.f, x.n, x.t⟩ 26)
                  have p0 : w3.cell? ⟨p, 0, none⟩ = some (.slice sa r.length sc) := hP.c 0 (by decide)
                  have x0 : w3.cell? ⟨wr.heap.size, 0, none⟩ = some (.int .i64 x.f) := CX3.out.c 0 (by decide)
                  have x1 : w3.cell? ⟨wr.heap.size, 1, none⟩ = some (.int .u64 (x.n : Int)) := CX3.out.c 1 (by decide)
                  have x2 : w3.cell? ⟨wr.heap.size, 2, none⟩ = some (.int .u64 (x.t : Int)) := CX3.out.c 2 (by decide)
                  have P4 := Lib.hid (hP.below bV2)
                  have hBs : B ≤ (w3.alloc (.cells #[.int .i64 x.f, .int .u64 (x.n : Int), .int .u64 (x.t : Int)] 26)).heap.size := Nat.le_trans S3.out.lt bV2.size
                  clear hP hO bV2
                  obtain ⟨m, hm⟩ : ∃ m, m = r.length := ⟨_, rfl⟩
                  rw [← hm] at OO OR p0 P4
                  have HMM := Lib.hid hm
                  have rl2 : m + 1 ≤ 100000000 := by rw [hm]; exact rl
                  clear hm
                  go_wp2_with (at_builtin; refine wpList_append_at rfl (.tmp 84) (.tmp 86) 27 rfl B 26 iT (.agg #[.int .i64 0, .int .u64 0, .int .u64 0]) 3 24 Try.underlying27 hi0 hz0 hz1 hz2 rfl (by decide) _ _ _ rfl OO.out _ 1 1 (xC ⟨x.f, x.n, x.t⟩) rfl rfl (fun e => by cases e) NW.out (xC_one _) (by unfold maxLen; omega) (by omega) hBs ?_
                               intro v2 w4 hown2 hgr2 hat2
                               obtain ⟨a3, c3, rfl⟩ := own_form hown2
                               obtain ⟨y1, y2, y3⟩ := JnS.push S4.out HMM.out P4.out OR.out OXX.out hown2 hgr2
                               have S5 := Lib.hid y3
                               clear hown2 hgr2 hat2 y3)
                  go_roundw
                  case rel => exact ⟨k + 1, by omega, by go_num, by rw [← RE.out]; exact S5.out⟩
                  case measure => simp only [intOf]; omega
                · have FE := Lib.hid (show heardX l1 x = none by unfold heardX; rw [hf, hm]; rfl)
                  rw [hm] at PC
                  clear hf hh hpl hm
                  go_wp2_with fail
                  refine PC.out.mono ?_
                  rintro e w3 ⟨rfl, hb⟩
                  have B3 := Lib.hid (B2.out.trans (hb.mono B2.out.size))
                  have S3 := Lib.hid (S.out.below B3.out)
                  have RE := Lib.hid (show (l1.filterMap (ownX l2) ++ (l2.take k).filterMap (heardX l1)) = (l1.filterMap (ownX l2) ++ (l2.take (k + 1)).filterMap (heardX l1)) from by rw [FN.out, FE.out]; exact congrArg _ (List.append_nil _).symm)
                  clear hb S2 B2 C2 d0 d1 d2 g0 PC FN FE
                  go_wp2_with fail
                  go_roundw
                  case rel => exact ⟨k + 1, by omega, by go_num, by rw [← RE.out]; exact S3.out⟩
                  case measure => simp only [intOf]; omega
              · have hh : hasX l1 x = true := by unfold hasX; rw [hf]; rfl
                have FE := Lib.hid (show heardX l1 x = none by unfold heardX; rw [hf]; rfl)
                rw [hh]
                obtain ⟨pl, hpl⟩ : ∃ pl, placeX l1 x = pl := ⟨_, rfl⟩
                rw [hpl]
                have RE := Lib.hid (show (l1.filterMap (ownX l2) ++ (l2.take k).filterMap (heardX l1)) = (l1.filterMap (ownX l2) ++ (l2.take (k + 1)).filterMap (heardX l1)) from by rw [FN.out, FE.out]; exact congrArg _ (List.append_nil _).symm)
                clear hf hh hpl C2 d0 d1 d2 g0 FN FE
                go_wp2_with fail
                go_roundw
                case rel => exact ⟨k + 1, by omega, by go_num, by rw [← RE.out]; exact S2.out⟩
                case measure => simp only [intOf]; omega
            · obtain rfl : k = n2 := by omega
              have SL := Lib.hid (show JnS W B p a1 n1 c1 l1 a2 k c2 l2 (listJ l1 l2) wr from by
                have := S.out
                rw [List.take_of_length_le (by rw [S.out.l2.len]; exact Nat.le_refl _)] at this
                exact this)
              have dk : decide ((k : Int) < (k : Int)) = false := decide_eq_false (by omega)
              have LL := Lib.hid (show (listJ l1 l2).length ≤ 1000000 from by
                unfold listJ
                have h1 := filt_le (ownX l2) l1
                have h2 := filt_le (heardX l1) l2
                rw [S.out.l1.len] at h1
                rw [S.out.l2.len] at h2
                rw [List.length_append]; omega)
              obtain ⟨sa, sc, hP, hO⟩ := SL.out.ex
              have q0 : wr.cell? ⟨p, 0, none⟩ = some (.slice sa (listJ l1 l2).length sc) := hP.c 0 (by decide)
              have SC := Lib.hid (sort_any hO rfl LL.out)
              have PP := Lib.hid hP
              have OO := Lib.hid hO
              clear S hP hO
              generalize hmj : (listJ l1 l2).length = mj at *
              have HMJ := Lib.hid hmj
              clear hmj
              go_wp2_with fail
              refine SC.out.mono ?_
              rintro e w5 ⟨rfl, l', hperm, hsrt, hO5, hk5⟩
              have LJ := Lib.hid (sorted_join GO.out GH.out hperm hsrt)
              have hl5 : l'.length = mj := by rw [hperm.length_eq]; exact HMJ.out
              have hp := SL.out.hp
              have hB := SL.out.hB
              have lo : ∀ j, (Value.slice sa mj sc).ownBlock = some j → B ≤ j := fun j e => (OO.out.own.lt j e).1
              have P5 := PP.out.keep hk5 (fun e => by have := lo _ e; omega)
              have R5 := SL.out.res.keep hk5 (fun e => by have := lo _ e; omega)
              have B5 : Below W.heap.size W w5 := SL.out.b.trans (hk5.below SL.out.b.size (fun j e => by have := lo _ e; omega))
              have q5 : w5.cell? ⟨p, 0, none⟩ = some (.slice sa mj sc) := P5.c 0 (by decide)
              obtain ⟨⟨x1, x2⟩, x3, x4, x5⟩ := put_at R5 B5 (by omega) (by omega) hO5
              have hWB : W.heap.size ≤ B := by omega
              have R := Lib.hid (show GPost W (joinG l1 l2) m (.returned (gV sa mj sc)) (w5.setCell ⟨W.heap.size + 2, 0, none⟩ (.slice sa mj sc)) from by
                have hmm := HM.out
                rw [← LJ.out, hl5] at hmm
                rw [← LJ.out, ← hmm]
                exact ⟨sa, sc, rfl, x4.mono hWB, hl5, x5⟩)
              clear x4 x5 hO5 hk5 P5 R5 B5 lo hperm hsrt
              go_wp2_with fail
              refine bodyPost_ret (v := gV sa mj sc) (by simp [results, Try.results14, go_sem, x3]) rfl ?_
              exact R.out

end Go.Proofs.Ytbmpeadoicjpnaa
