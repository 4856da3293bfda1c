/-
  What goes on.
-/
import Derived.Test.YthipdinpbihhmaaNdn
import Derived.Deep.RegionLaw
namespace Go.Proofs.Ythipdinpbihhmaa
open Go.RowKit

/-- Bodies, in a row. -/
def UpR (M : Nat) (w : World) (v : Value) (ss : List ByteArray) : Prop :=
  ∃ (a : Option Addr) (cap : Nat) (L : List Bd), v = .slice a L.length cap ∧ L.map Bd.s = ss ∧ RowV (fun k => M ≤ k) w a cap L.length 1 (L.map bdV) ∧ ∀ b ∈ L, BodyV (fun k => M ≤ k) w b
theorem UpR.below {M : Nat} {w w' : World} {v : Value} {ss : List ByteArray} (h : UpR M w v ss) (hb : Below w.heap.size w w') : UpR M w' v ss := by
  obtain ⟨a, cap, L, h1, h2, h3, h4⟩ := h
  exact ⟨a, cap, L, h1, h2, h3.below hb, fun b hb' => (h4 b hb').below hb⟩
theorem UpR.keep {M : Nat} {w w' : World} {v : Value} {ss : List ByteArray} {F : Nat → Prop} (h : UpR M w v ss) (hk : Keep F w w') (hF : ∀ k, k < w.heap.size → M ≤ k → ¬ F k) : UpR M w' v ss := by
  obtain ⟨a, cap, L, h1, h2, h3, h4⟩ := h
  exact ⟨a, cap, L, h1, h2, h3.carry hk.size (fun k a b => hk.block k a (hF k a b)), fun b hb' => (h4 b hb').carry hk.size (fun k a b => hk.block k a (hF k a b))⟩
theorem UpR.none (M : Nat) (w : World) : UpR M w (.slice none 0 0) [] := ⟨Option.none, 0, [], rfl, rfl, RowV.none _ _ _, fun b hb => by cases hb⟩

def PQ (p q : Nat) : Nat → Prop := fun k => k = p ∨ k = q

/-- Between two rounds. -/
def GoRel (W : World) (p q M win next hi : Nat) (E : List (Nat × Bd)) (v : Value) (wr : World) : Prop :=
  ∃ (n2 : Nat) (E2 : List (Nat × Bd)) (L : List Bd), wr.ownsRow W.heap.size 31 1 v L.length (L.map bdV) ∧ (∀ b ∈ L, BodyV (fun k => M ≤ k ∧ k < W.heap.size) wr b) ∧ (∀ x ∈ E2, BodyV (fun k => M ≤ k ∧ k < W.heap.size) wr x.2) ∧
    DkV wr p q M win n2 E2 ∧ Up n2 hi E2 ∧ n2 ≤ hi ∧ goN next E = (L ++ (goN n2 E2).1, (goN n2 E2).2) ∧ n2 = next + L.length ∧ Keep (PQ p q) W wr

def GoPost (W : World) (p q M win next : Nat) (E : List (Nat × Bd)) (e : Ending) (w : World) : Prop :=
  ∃ v, e = .returned v ∧ UpR M w v ((goN next E).1.map Bd.s) ∧ DkV w p q M win (next + (goN next E).1.length) (goN next E).2 ∧ Keep (PQ p q) W w

section
variable {W wr : World} {p q M win next hi n2 : Nat} {E E2 : List (Nat × Bd)} {L : List Bd}

theorem go_done {v : Value} (hO : wr.ownsRow W.heap.size 31 1 v L.length (L.map bdV)) (hL : ∀ b ∈ L, BodyV (fun k => M ≤ k ∧ k < W.heap.size) wr b) (hD : DkV wr p q M win n2 E2) (hM : M ≤ W.heap.size)
    (hU : Up n2 hi E2) (hg : goN next E = (L ++ (goN n2 E2).1, (goN n2 E2).2)) (hn : n2 = next + L.length) (hK : Keep (PQ p q) W wr) (hs : E2.lookup n2 = none) : GoPost W p q M win next E (.returned v) wr := by
  rw [(up_none hU hs).2, List.append_nil] at hg
  refine ⟨v, rfl, ?_, by rw [hg, ← hn]; exact hD, hK⟩
  rw [hg]
  obtain ⟨a, cap, e, hr⟩ := own_row hO
  exact ⟨a, cap, L, e, rfl, hr.mono (fun k _ hk => Nat.le_trans hM (hO.lt k hk).1), fun b hb => (hL b hb).mono (fun k _ h => h.1)⟩

theorem go_step {a : Option Addr} {cap g2 cap2 : Nat} {b : Bd} {t : List (Nat × Bd)} {w2 w3 w4 : World} {D : DataW Value} {o : Obj} (hO : wr.ownsRow W.heap.size 31 1 (.slice a L.length cap) L.length (L.map bdV))
    (hL : ∀ b ∈ L, BodyV (fun k => M ≤ k ∧ k < W.heap.size) wr b) (hE : ∀ x ∈ (n2, b) :: t, BodyV (fun k => M ≤ k ∧ k < W.heap.size) wr x.2) (hD : DkV wr p q M win n2 ((n2, b) :: t)) (hM : M ≤ W.heap.size)
    (hU : Up n2 hi ((n2, b) :: t)) (hg : goN next E = (L ++ (goN n2 ((n2, b) :: t)).1, (goN n2 ((n2, b) :: t)).2)) (hn : n2 = next + L.length) (hK : Keep (PQ p q) W wr)
    (hown : w2.ownsRow W.heap.size 31 1 (.slice (some ⟨g2, 0, none⟩) (L.length + 1) cap2) (L.length + 1) (L.map bdV ++ [bdV b])) (hgr : (wr.alloc o).grownBy w2 (Value.slice a L.length cap).ownBlock)
    (hV : Vw D ((n2, b) :: t)) (hm : w3.ownsMap Try.prog 30 anyR q ((n2, b) :: t).length (D.del (kN n2))) (hT : Maps.Tidy D) (ht : w2.mapTurned w3 q) (h4 : Alike (w3.setCell ⟨p, 1, none⟩ (.int .u64 ((n2 + 1 : Nat) : Int))) w4) :
    GoRel W p q M win next hi E (.slice (some ⟨g2, 0, none⟩) (L.length + 1) cap2) w4 := by
  have hrow : ∀ j, (Value.slice a L.length cap).ownBlock = some j → W.heap.size ≤ j ∧ j < wr.heap.size := hO.lt
  have hsz := hK.size
  have hpM := hD.pM
  have hqM := hD.qM
  have k2 : Keep (fun k => (Value.slice a L.length cap).ownBlock = some k) wr w2 := ((Keep.refl _ wr).alloc o).grown hgr (fun k h => Or.inl h)
  have k3 : Keep (fun k => (Value.slice a L.length cap).ownBlock = some k ∨ k = q) wr w3 := (k2.mono (fun i h => Or.inl h)).grown ht.grown (fun k h => Or.inl (Or.inr (by cases h; rfl)))
  have k4 : Keep (fun k => (Value.slice a L.length cap).ownBlock = some k ∨ k = q ∨ k = p) wr w4 := h4.keep (Keep.setCell (F := fun k => (Value.slice a L.length cap).ownBlock = some k ∨ k = q ∨ k = p) (k3.mono (fun i h => h.elim Or.inl (fun e => Or.inr (Or.inl e)))) (p := ⟨p, 1, none⟩) (Or.inr (Or.inr rfl)) _)
  have hcar : ∀ k, k < wr.heap.size → (M ≤ k ∧ k < W.heap.size) → w4.heap[k]? = wr.heap[k]? := fun k hk h => k4.block k hk (fun f => by
    rcases f with f | f | f
    · have := (hrow k f).1; omega
    · omega
    · omega)
  have hc := hD.c
  have hne := hD.ne
  have c2 := hc.keep k2 (fun f => by have := (hrow p f).1; omega)
  have c3 : Cel 3 w3 p (dkC win n2 q) := by
    refine Cel.keep (F := fun k => k = q) c2 ?_ hne
    exact ((Keep.refl _ w2)).grown ht.grown (fun k h => Or.inl (by cases h; rfl))
  have hq3 : w3.heap[q]? = w4.heap[q]? := by
    have e1 : w4.heap[q]? = (w3.setCell ⟨p, 1, none⟩ (.int .u64 ((n2 + 1 : Nat) : Int))).heap[q]? := by rw [h4.1]
    rw [e1]
    exact (Below.heap_setCell _ ⟨p, 1, none⟩ _ _ (fun e => hne e.symm)).symm
  have c4 : Cel 3 w4 p (dkC win (n2 + 1) q) := by
    refine Cel.conv (Cel.keep (F := fun _ => False) (c3.put 1 (.int .u64 ((n2 + 1 : Nat) : Int))) (h4.keep (Keep.refl _ _)) id) (fun o ho => ?_)
    match o, ho with
    | 0, _ => rfl
    | 1, _ => rfl
    | 2, _ => rfl
  have hV2 := hV.del hT hU
  have hm4 : w4.ownsMap Try.prog 30 anyR q t.length (D.del (kN n2)) := ownsMap_tight (ownsMap_block hm hq3.symm) hV2.size
  have hg2 := hown.lt g2 rfl
  have own4 : w4.ownsRow W.heap.size 31 1 (.slice (some ⟨g2, 0, none⟩) (L.length + 1) cap2) (L.length + 1) (L.map bdV ++ [bdV b]) := by
    refine own_carry hown (fun k hk => ?_)
    have hk2 := (hown.lt k hk).1
    have e1 : w4.heap[k]? = (w3.setCell ⟨p, 1, none⟩ (.int .u64 ((n2 + 1 : Nat) : Int))).heap[k]? := by rw [h4.1]
    rw [e1, Below.heap_setCell _ ⟨p, 1, none⟩ _ _ (by show k ≠ p; omega)]
    exact ht.grown.block k (hown.lt k hk).2 (fun e => by cases e; omega)
  refine ⟨n2 + 1, t, L ++ [b], ?_, ?_, ?_, ⟨c4, hpM, hqM, hne, Nat.le_trans hD.size k4.size, ⟨_, hm4, hV2⟩, fun x hx => ?_⟩, hU.tail, ?_, ?_, ?_, ?_⟩
  · rw [List.length_append, List.map_append]
    exact own4
  · intro x hx
    rcases List.mem_append.1 hx with hx | hx
    · exact (hL x hx).carry k4.size hcar
    · obtain rfl := List.mem_singleton.1 hx
      exact (hE (n2, x) (List.mem_cons_self ..)).carry k4.size hcar
  · exact fun x hx => (hE x (List.mem_cons_of_mem _ hx)).carry k4.size hcar
  · exact ((hE x (List.mem_cons_of_mem _ hx)).carry k4.size hcar).mono (fun k _ h => h.1)
  · exact (hU.2 (n2, b) (List.mem_cons_self ..)).2
  · rw [hg, goN_first, List.append_assoc]
    rfl
  · rw [List.length_append, List.length_singleton]; omega
  · refine hK.trans k4 (fun i hi f => ?_)
    rcases f with f | f | f
    · have := (hrow i f).1; omega
    · exact Or.inr f
    · exact Or.inl f

set_option maxRecDepth 20000 in
set_option maxHeartbeats 4000000 in
theorem goOn_any (h : DkV W p q M win next E) (hU : Up next hi E) (hn : next ≤ hi) (hh : hi ≤ 1000000) (hl : E.length ≤ 1000) :
    Calls Try.prog 19 #[.pointer (some ⟨p, 0, none⟩)] W (GoPost W p q M win next E) := by
  obtain ⟨i0, hi0, hz0, hz1, hz2⟩ := info_g Try.infoBs
  have H := Lib.hid h
  have U := Lib.hid hU
  have hM := h.size
  have B0 := Lib.hid (show ∀ x ∈ E, BodyV (fun k => M ≤ k ∧ k < W.heap.size) W x.2 from fun x hx => (h.body x hx).mono (fun k hk h => ⟨h, hk⟩))
  have LE := Lib.hid hl
  clear h hU hl
  go_enter Try.func19, Try.ntmps19
  go_wp2_with fail
  go_loopw [3] (fun v wr => GoRel W p q M win next hi E v wr) (fun _ wr => hi - (match wr.cell? ⟨p, 1, none⟩ with | some v => (intOf v).toNat | none => 0))
  case atStart => exact ⟨next, E, [], World.ownsRow_nil .., (fun b hb => by cases hb), B0.out, H.out, U.out, hn, by simp, rfl, Keep.refl _ _⟩
  case round =>
    obtain ⟨n2, E2, L, hO, hL, hE, hD, hU, hnh, hg, hn2, hK⟩ := hrel
    obtain ⟨c0, c1, c2⟩ := hD.cells
    obtain ⟨a, cap, rfl⟩ := own_form hO
    cases hs : E2.lookup n2 with
    | none =>
      have C := Lib.hid (holds_any hD (show n2 < 18446744073709551616 by omega) false (by rw [hs]; rfl))
      have R := Lib.hid (go_done hO hL hD hM hU hg hn2 hK hs)
      clear hO hL hE hD hg hK hs hn2 hU
      go_wp2_with (go_at_call 17; refine C.out.mono ?_; rintro e w' ⟨rfl, rfl⟩)
      go_ret
      exact R.out
    | some b =>
      obtain ⟨t, rfl⟩ := up_first hU hs
      have C := Lib.hid (holds_any hD (show n2 < 18446744073709551616 by omega) true (by rw [hs]; rfl))
      obtain ⟨D, hm, hV⟩ := hD.map
      have hT := hm.tidy keyed
      have hkey := keyOf_n (show n2 < 18446744073709551616 by omega)
      obtain ⟨v, ps, hrun, hat⟩ := (show wr.drew.ownsMap Try.prog 30 anyR q _ D from hm).lookup keyed Try.underlying54 (zero_b wr.drew) (R := anyR) rfl hkey
      rw [hV.look, hs] at hat
      unfold anyR at hat
      simp only [Option.some.injEq, Prod.mk.injEq, DataW.held.injEq] at hat
      obtain ⟨rfl, -⟩ := hat
      unfold uN bdV at hrun
      have hnlt : n2 < hi := (hU.2 (n2, b) (List.mem_cons_self ..)).2
      have hL2 : L.length ≤ 1000000 := by omega
      have dw := drew_below wr
      have GS := Lib.hid (fun (g2 cap2 : Nat) (w2 w3 w4 : World) (o : Obj) hown hgr hm ht h4 => go_step (wr := wr.drew) (w2 := w2) (w3 := w3) (w4 := w4) (o := o) (g2 := g2) (cap2 := cap2) (own_below hO dw) (fun b hb => (hL b hb).below dw) (fun x hx => (hE x hx).below dw) (hD.below dw) hM hU hg hn2 (hK.trans (Keep.ofBelow (F := fun _ => False) dw) (fun _ _ f => f.elim)) hown hgr hV hm hT ht h4)
      have O1 := Lib.hid (own_below hO dw)
      have DV := Lib.hid (hD.below dw)
      have HW := Lib.hid hK.size
      have HM := Lib.hid hm
      have HK := Lib.hid hkey

      clear hO hL hE hD hg hK hs hn2 hU hV hT hm hkey dw
      obtain ⟨nL, hnL⟩ : ∃ x, x = L.length := ⟨_, rfl⟩
      rw [← hnL] at O1 GS hL2 ⊢
      have NL := Lib.hid hnL
      clear hnL
      go_wp2_with (go_at_call 17; refine C.out.mono ?_; rintro e w' ⟨rfl, hw⟩; have hw2 := hw.symm; clear hw; subst hw2)
      have d1 : wr.drew.cell? ⟨p, 1, none⟩ = some (.int .u64 ((n2 : Nat) : Int)) := c1
      have d2 : wr.drew.cell? ⟨p, 2, none⟩ = some (.map (some q)) := c2
      have wn : IntKind.u64.wrap ((n2 : Int) + 1) = ((n2 + 1 : Nat) : Int) := by
        simp only [IntKind.wrap, IntKind.bits, IntKind.signed]
        simp
        omega
      go_region_law (refine step_append_lies _ rfl (.tmp 10) (.tmp 20) 27 rfl W.heap.size 31 i0 _ 1 24 Try.underlying27 hi0 hz0 hz1 hz2 rfl (by decide) _ _ _ (by simp [Act.eval]) (World.ownsRow.alloc O1.out _) ⟨wr.heap.size, 0, none⟩ 1 1 [bdV b] (by simp [Act.eval]) rfl (World.news_of_block (heap_alloc_new _ _)) (by simp [Value.oneCell', bdV]) (by omega) (by unfold maxLen; omega) (by omega) (by have := HW.out; simp; omega) _ rfl ?_; intro g2 cap2 w2 hown2 hgr2 hat2 hlt2)
      all_goals
        have k2 : Keep (fun k => (Value.slice a nL cap).ownBlock = some k) wr.drew w2 := ((Keep.refl _ wr.drew).alloc _).grown hgr2 (fun k h => Or.inl h)
        have hrow : ∀ k, (Value.slice a nL cap).ownBlock = some k → W.heap.size ≤ k := fun k h => (O1.out.lt k h).1
        have hpW : p < W.heap.size := Nat.lt_of_lt_of_le DV.out.pM hM
        have hqW : q < W.heap.size := Nat.lt_of_lt_of_le DV.out.qM hM
        have C2 := DV.out.c.keep k2 (fun f => by have := hrow p f; omega)
        have m2 : w2.drew.ownsMap Try.prog 30 anyR q _ D := ownsMap_block HM.out (k2.block q (by have := HW.out; show q < wr.heap.size; omega) (fun f => by have := hrow q f; omega))
        obtain ⟨w3, hdel, hm3, ht3⟩ := m2.drop keyed Try.underlying54 HK.out 0
        unfold uN at hdel
        have C3 : Cel 3 w3 p (dkC win n2 q) := Cel.keep (F := fun k => k = q) (C2.drew) ((Keep.refl _ w2.drew).grown ht3.grown (fun k h => Or.inl (by cases h; rfl))) DV.out.ne
        have e1 : w2.drew.cell? ⟨p, 1, none⟩ = some (.int .u64 ((n2 : Nat) : Int)) := C2.drew.c 1 (by decide)
        have e2 : w2.drew.cell? ⟨p, 2, none⟩ = some (.map (some q)) := C2.drew.c 2 (by decide)
        have f1 : w3.cell? ⟨p, 1, none⟩ = some (.int .u64 ((n2 : Nat) : Int)) := C3.c 1 (by decide)
        have f2 : w3.frozen? ⟨p, 1, none⟩ = false := C3.fz 1
        have G := Lib.hid (fun w4 h4 => GS.out g2 cap2 w2.drew w3 w4 _ hown2 ⟨hgr2.os, hgr2.tape, hgr2.output, hgr2.size, hgr2.block⟩ hm3 ht3 h4)
        clear k2 C2 m2 hm3 ht3 C3 hgr2 hown2 hat2 hlt2
        go_wp2_with fail
        try go_simp
        go_region
      all_goals go_wp2_with fail
      all_goals go_roundw
      all_goals first
        | exact G.out _ ⟨rfl, rfl, rfl, rfl⟩
        | (rw [World.cell?_setCell_same _ _ _ f1, c1]; simp only [intOf]; omega)
end

end Go.Proofs.Ythipdinpbihhmaa
