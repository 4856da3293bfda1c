import Derived.Test.YtopnagjbdjicaaaCmkm
import Derived.Test.YtopnagjbdjicaaaWregm

/-
  A square out of rows.
-/
namespace Go.Proofs.Ytopnagjbdjicaaa
open Go.RowKit

def MkRl (W : World) (p t : Nat) (z : Int) (L : List Rd) (i : Value) (wr : World) : Prop :=
  ∃ (k : Nat) (a : Option Addr) (cap : Nat), k ≤ L.length ∧ i = .int .i64 (k : Nat) ∧ wr.ownsRow W.heap.size 42 1 (.slice a k cap) k ((L.take k).map rdV) ∧ Below W.heap.size W wr ∧
    Cel 2 wr p (mkC z (.slice a k cap)) ∧ Cel 2 wr t (mkC 0 (.slice none 0 0)) ∧ (Value.slice a k cap).ownBlock ≠ some p ∧ (Value.slice a k cap).ownBlock ≠ some t

theorem MkRl.next {W wr w1 w2 : World} {p t k : Nat} {z : Int} {L : List Rd} {a a2 : Option Addr} {cap cap2 : Nat} (hk : k < L.length) (hO : wr.ownsRow W.heap.size 42 1 (.slice a k cap) k ((L.take k).map rdV)) (hb : Below W.heap.size W wr)
    (hc : Cel 2 wr p (mkC z (.slice a k cap))) (ht : Cel 2 wr t (mkC 0 (.slice none 0 0))) (np : (Value.slice a k cap).ownBlock ≠ some p) (nt : (Value.slice a k cap).ownBlock ≠ some t) (hpt : p ≠ t) (hp : W.heap.size ≤ p) (h1 : Below wr.heap.size wr w1)
    (hown : w2.ownsRow W.heap.size 42 1 (.slice a2 (k + 1) cap2) (k + 1) ((L.take k).map rdV ++ [rdV L[k]])) (hgr : w1.grownBy w2 (Value.slice a k cap).ownBlock)
    (hat : ∀ j, (Value.slice a2 (k + 1) cap2).ownBlock = some j → (Value.slice a k cap).ownBlock = some j ∨ w1.heap.size ≤ j) :
    w2.cell? ⟨p, 1, none⟩ = some (.slice a k cap) ∧ w2.frozen? ⟨p, 1, none⟩ = false ∧ MkRl W p t z L (.int .i64 ((k + 1 : Nat) : Int)) (w2.setCell ⟨p, 1, none⟩ (.slice a2 (k + 1) cap2)) := by
  have hw : W.heap.size ≤ wr.heap.size := hb.size
  have kk : Keep (fun j => (Value.slice a k cap).ownBlock = some j) w1 w2 := (Keep.refl _ _).grown hgr (fun j h => Or.inl h)
  have c2 := (hc.below h1).keep kk np
  have t2 := (ht.below h1).keep kk nt
  have hpl := hc.lt
  have htl := ht.lt
  have h1s := h1.size
  have np2 : (Value.slice a2 (k + 1) cap2).ownBlock ≠ some p := fun e => (hat _ e).elim np (fun h => by omega)
  have nt2 : (Value.slice a2 (k + 1) cap2).ownBlock ≠ some t := fun e => (hat _ e).elim nt (fun h => by omega)
  have b2 : Below W.heap.size W w2 := (hb.trans (h1.mono hw)).grown hgr (by omega) (fun j h => (hO.lt j h).1)
  refine ⟨c2.c 1 (by decide), c2.fz 1, k + 1, a2, cap2, by omega, rfl, ?_, b2.setCell hp _, ?_, ?_, np2, nt2⟩
  · rw [← row_more hk]
    refine own_carry hown fun j hj => ?_
    exact Below.heap_setCell _ _ _ _ (fun e => np2 (by rw [hj, e]))
  · refine (c2.put 1 (.slice a2 (k + 1) cap2)).conv fun o ho => ?_
    unfold updc mkC
    rcases (show o = 0 ∨ o = 1 by omega) with rfl | rfl <;> rfl
  · refine t2.keep (F := fun j => j = p) ((Keep.refl _ _).put 1 _) (fun e => hpt e.symm)

set_option maxRecDepth 20000 in
set_option maxHeartbeats 8000000 in
theorem mat1_any {W : World} {a : Option Addr} {cap n : Nat} {L : List Rd} (z : Int) (h : SlV W a cap (L.map rdV)) (hn : L.length = n) (hl : n ≤ 100000) :
    Calls Try.prog 27 #[.int .i64 z, .slice a n cap] W fun e w' => ∃ a' cap', e = .returned (.agg #[.int .i64 z, .slice a' n cap']) ∧ SameR W L a' cap' w' := by
  obtain ⟨i0, hi0, hz0, hz1, hz2⟩ := info_v Try.infoV
  have S := Lib.hid h
  have HN := Lib.hid hn
  clear h hn
  obtain ⟨w0, hw0⟩ : ∃ w0, w0 = (W.alloc (.cells #[.int .i64 0, .slice none 0 0] 37)).alloc (.cells #[.int .i64 z, .slice none 0 0] 37) := ⟨_, rfl⟩
  have I0 := Lib.hid (show MkRl W (W.heap.size + 1) W.heap.size z L (.int .i64 0) w0 from by
    have b1 : Below W.heap.size W (W.alloc (.cells #[.int .i64 0, .slice none 0 0] 37)) := below_alloc (Below.refl _ _) _
    have t1 := (Cel.new W [.int .i64 0, .slice none 0 0] 37).conv (V2 := mkC 0 (.slice none 0 0)) (fun o ho => by
      rcases (show o = 0 ∨ o = 1 by simp at ho; omega) with rfl | rfl <;> rfl)
    have c1 := (Cel.new (W.alloc (.cells #[.int .i64 0, .slice none 0 0] 37)) [.int .i64 z, .slice none 0 0] 37).conv (V2 := mkC z (.slice none 0 0)) (fun o ho => by
      rcases (show o = 0 ∨ o = 1 by simp at ho; omega) with rfl | rfl <;> rfl)
    subst hw0
    have e : (W.alloc (.cells #[.int .i64 0, .slice none 0 0] 37)).heap.size = W.heap.size + 1 := by simp
    rw [e] at c1
    exact ⟨0, none, 0, Nat.zero_le _, rfl, by rw [List.take_zero]; exact World.ownsRow_nil _ _ _ _, below_alloc b1 _, c1, t1.below (below_alloc (Below.refl _ _) _), by simp [Value.ownBlock], by simp [Value.ownBlock]⟩)
  have HW0 := Lib.hid hw0.symm
  clear hw0
  go_enter Try.func27, Try.ntmps27
  go_wp2_with fail
  rw [HW0.out]
  clear HW0
  go_loopw [6] (fun i wr => MkRl W (W.heap.size + 1) W.heap.size z L i wr) (fun i _ => n - (intOf i).toNat)
  case atStart => exact I0.out
  case round =>
    obtain ⟨k, sa, sc, hk, rfl, hO, hb, hc, ht, np, nt⟩ := hrel
    rw [HN.out] at hk
    clear I0
    by_cases hlt : k < n
    · have kl : k < L.length := by rw [HN.out]; exact hlt
      obtain ⟨b, off, rfl, hbW, hcx⟩ := (S.out.below hb).at k kl
      have hsz := S.out.fit
      rw [List.length_map, HN.out] at hsz
      have j0 : (0 : Int) ≤ (k : Int) := by omega
      have j1 : (k : Int) < (n : Int) := by omega
      have hk8 : k ≤ 100000 := by omega
      have NX := Lib.hid (fun w1 w2 a2 cap2 h1 hown hgr hat => MkRl.next (w1 := w1) (w2 := w2) (a2 := a2) (cap2 := cap2) kl hO hb hc ht np nt (by omega) (by omega) h1 hown hgr hat)
      have c1 : wr.cell? ⟨W.heap.size + 1, 1, none⟩ = some (.slice sa k sc) := hc.c 1 (by decide)
      have c1d : wr.drew.cell? ⟨W.heap.size + 1, 1, none⟩ = some (.slice sa k sc) := c1
      have OD := Lib.hid (fun o => show (wr.alloc o).drew.ownsRow W.heap.size 42 1 (.slice sa k sc) k ((L.take k).map rdV) from own_below hO ((below_alloc (Below.refl _ wr) o).trans ((drew_below _).mono (by simp))))
      have BD := Lib.hid (fun o => show Below wr.heap.size wr (wr.alloc o).drew from (below_alloc (Below.refl _ wr) o).trans ((drew_below _).mono (by simp)))
      have SZ := Lib.hid hb.size
      have XV := Lib.hid (show rdV L[k] = rdV L[k] from rfl)
      clear hO hb hc ht np nt XV
      generalize L[k] = x at *
      obtain ⟨xa, xc, xl⟩ := x
      have hcx' : wr.cell? ⟨b, off + k, none⟩ = some (.slice xa xl.length xc) := hcx
      have hcxd : wr.drew.cell? ⟨b, off + k, none⟩ = some (.slice xa xl.length xc) := hcx
      have hcxa : (wr.alloc (.cells #[.slice xa xl.length xc] 42)).drew.cell? ⟨W.heap.size + 1, 1, none⟩ = some (.slice sa k sc) := cell_go (w := wr) (w' := (wr.alloc (.cells #[.slice xa xl.length xc] 42)).drew) c1 ((below_alloc (Below.refl _ wr) _).trans ((drew_below _).mono (by simp)))
      clear hcx hlt hk
      generalize hxl : xl.length = x1 at *
      have XL := Lib.hid hxl
      clear hxl
      have ONE : ∀ u ∈ ([.slice xa x1 xc] : List Value), u.oneCell' = true := fun u hu => by rw [List.mem_singleton.1 hu]; rfl
      have HONE := Lib.hid ONE
      clear ONE
      go_wp2_with fail
      go_region_law (refine step_append_at rfl (.tmp 16) (.tmp 21) 35 rfl W.heap.size 42 i0 (.slice none 0 0) 1 24 Try.underlying35 hi0 hz0 hz1 hz2 rfl (by decide) (.slice sa k sc) k ((L.take k).map rdV) (by simp [Act.eval]) (OD.out (.cells #[.slice xa x1 xc] 42)) (some ⟨wr.heap.size, 0, none⟩) 1 1 [.slice xa x1 xc] (by simp [Act.eval]) rfl (fun e => by cases e) (lit_cell wr _ _) HONE.out (by unfold maxLen; omega) (by omega) (by have := SZ.out; simp; omega) ?_; intro a2 cap2 w2 hown2 hgr2 hat2; obtain ⟨c2, f2, r2⟩ := NX.out _ w2 a2 cap2 (BD.out _) (by unfold rdV; rw [XL.out]; exact hown2) hgr2 hat2; have R := Lib.hid r2; clear r2 hown2 hgr2 hat2)
      all_goals
        try go_simp
        go_wp2_with fail
        go_roundw
        case rel => exact R.out
        case measure => simp only [intOf]; omega
    · obtain rfl : k = n := by omega
      have dk : decide ((k : Int) < (k : Int)) = false := decide_eq_false (by omega)
      rw [List.take_of_length_le (by rw [HN.out]; exact Nat.le_refl _)] at hO
      obtain ⟨-, a3, c3, e3, hS⟩ := own_slv hO
      rw [List.length_map, HN.out] at e3
      cases e3
      have c0 : wr.cell? ⟨W.heap.size + 1, 0, none⟩ = some (.int .i64 z) := hc.c 0 (by decide)
      have c1 : wr.cell? ⟨W.heap.size + 1, 1, none⟩ = some (.slice sa k sc) := hc.c 1 (by decide)
      have d0 : wr.cell? ⟨W.heap.size, 0, none⟩ = some (.int .i64 0) := ht.c 0 (by decide)
      have d1 : wr.cell? ⟨W.heap.size, 1, none⟩ = some (.slice none 0 0) := ht.c 1 (by decide)
      have f0 := ht.fz 0
      have f1 := ht.fz 1
      have T2 := (ht.put 0 (.int .i64 z)).put 1 (.slice sa k sc)
      have r0 : ((wr.setCell ⟨W.heap.size, 0, none⟩ (.int .i64 z)).setCell ⟨W.heap.size, 1, none⟩ (.slice sa k sc)).cell? ⟨W.heap.size, 0, none⟩ = some (.int .i64 z) := T2.c 0 (by decide)
      have r1 : ((wr.setCell ⟨W.heap.size, 0, none⟩ (.int .i64 z)).setCell ⟨W.heap.size, 1, none⟩ (.slice sa k sc)).cell? ⟨W.heap.size, 1, none⟩ = some (.slice sa k sc) := T2.c 1 (by decide)
      have R := Lib.hid (show SameR W L sa sc ((wr.setCell ⟨W.heap.size, 0, none⟩ (.int .i64 z)).setCell ⟨W.heap.size, 1, none⟩ (.slice sa k sc)) from
        ⟨hS.carry (by simp [World.setCell]) (fun ad e _ _ => by
            have hne : ad.block ≠ W.heap.size := fun h => nt (by subst e; simp [Value.ownBlock, h])
            exact (Below.heap_setCell _ _ _ _ hne).trans (Below.heap_setCell _ _ _ _ hne)), (hb.setCell (Nat.le_refl _) _).setCell (Nat.le_refl _) _, fun ad e => by subst e; exact (hO.lt ad.block rfl).1⟩)
      clear hO hb hS hc ht np nt T2
      go_wp2_with fail
      refine bodyPost_ret (v := .agg #[.int .i64 z, .slice sa k sc]) (by simp [results, Try.results27, go_sem, r0, r1]) rfl ?_
      exact ⟨_, _, rfl, R.out⟩

end Go.Proofs.Ytopnagjbdjicaaa
