/-
  Parts as bytes; two writers apart.
-/
import Derived.Test.YthakbcfjpnielaaPaw
import Derived.Deep.RegionWith
namespace Go.Proofs.Ythakbcfjpnielaa
open Go.RowKit

/-- A part as bytes. -/
def prtB (q : Prt) : List Nat := if q.kind = 0 ∨ q.kind = 1 then lebL q.num else if q.kind = 2 then beL (keyN q.flt) else lebL q.bs.length ++ q.bs
def prtL (l : List Prt) : List Nat := l.flatMap prtB
theorem prtL_take {l : List Prt} {j : Nat} (h : j < l.length) : prtL (l.take (j + 1)) = prtL (l.take j) ++ prtB l[j] := by
  unfold prtL
  rw [List.take_succ_eq_append_getElem h, List.flatMap_append]
  simp
theorem prtL_drop {l : List Prt} {j : Nat} (h : j < l.length) : prtL (l.drop j) = prtB l[j] ++ prtL (l.drop (j + 1)) := by
  unfold prtL
  rw [List.drop_eq_getElem_cons h, List.flatMap_cons]
theorem prtB_len {q : Prt} (hn : q.num < 18446744073709551616) (hb : q.bs.length ≤ 100) : (prtB q).length ≤ 110 := by
  unfold prtB
  split
  · have := (leb_len hn).2; omega
  · split
    · rw [beL_len]; omega
    · have := (leb_len (show q.bs.length < 18446744073709551616 by omega)).2
      rw [List.length_append]; omega
theorem prtL_len : ∀ (l : List Prt), (∀ q ∈ l, q.num < 18446744073709551616 ∧ q.bs.length ≤ 100) → (prtL l).length ≤ 110 * l.length
  | [], _ => by simp [prtL]
  | q :: r, h => by
    have h1 := h q (List.mem_cons_self ..)
    have h2 := prtL_len r (fun x hx => h x (List.mem_cons_of_mem _ hx))
    have h3 := prtB_len h1.1 h1.2
    have e : prtL (q :: r) = prtB q ++ prtL r := by unfold prtL; rw [List.flatMap_cons]
    rw [e, List.length_append, List.length_cons]
    omega

/-- One part of those that came in. -/
def PartK (b off : Nat) (ab : Option Addr) (cb j : Nat) (q : Prt) (w : World) : Prop :=
  w.cell? ⟨b, off + j * 4, none⟩ = some (.int .i64 q.kind) ∧ w.cell? ⟨b, off + j * 4 + 1, none⟩ = some (.int .u64 (q.num : Nat)) ∧
    w.cell? ⟨b, off + j * 4 + 2, none⟩ = some (.float .f64 q.flt) ∧ w.cell? ⟨b, off + j * 4 + 3, none⟩ = some (.slice ab q.bs.length cb) ∧ SlAt bV 256 w ab cb q.bs
theorem part_at {l : List Prt} {ao : Option Addr} {cap j : Nat} {W : World} (hs : PtAt W ao cap l) (hj : j < l.length) :
    ∃ b off ab cb, ao = some ⟨b, off, none⟩ ∧ (∀ ad, ab = some ad → l[j].bs ≠ [] → ad.block < W.heap.size) ∧ ∀ w, Below W.heap.size W w → PartK b off ab cb j l[j] w := by
  obtain ⟨b, off, ab, cb, e, hl, h0, h1, h2, h3, hb⟩ := hs.cell j hj
  refine ⟨b, off, ab, cb, e, fun ad e2 h0 => ?_, fun w hB => ⟨(hB.cell (p := ⟨b, off + j * 4, none⟩) hl).trans h0, (hB.cell (p := ⟨b, off + j * 4 + 1, none⟩) hl).trans h1, (hB.cell (p := ⟨b, off + j * 4 + 2, none⟩) hl).trans h2, (hB.cell (p := ⟨b, off + j * 4 + 3, none⟩) hl).trans h3, hb.below hB⟩⟩
  obtain ⟨b3, o3, e3, hl3, _⟩ := hb.cell 0 (List.length_pos_iff.2 h0)
  rw [e2] at e3
  cases e3
  exact hl3

/-- Two writers, apart; all else below N as it was. -/
structure Two (W w : World) (N p q : Nat) (F G : Nat → Prop) (bs cs : List Nat) : Prop where
  a : WrAt w N p F bs
  b : WrAt w N q G cs
  ap : ∀ k, F k → ¬ G k
  be : Below N W w
theorem Two.swap {W w : World} {N p q : Nat} {F G : Nat → Prop} {bs cs : List Nat} (h : Two W w N p q F G bs cs) : Two W w N q p G F cs bs := ⟨h.b, h.a, fun k g f => h.ap k f g, h.be⟩
theorem Two.below {W w w' : World} {N p q : Nat} {F G : Nat → Prop} {bs cs : List Nat} (h : Two W w N p q F G bs cs) (hb : Below w.heap.size w w') : Two W w' N p q F G bs cs :=
  ⟨h.a.below hb, h.b.below hb, h.ap, h.be.trans (hb.mono h.a.size.1)⟩
theorem Two.left {W w w' : World} {N p q : Nat} {F G : Nat → Prop} {bs cs bs' : List Nat} {e : Ending} (h : Two W w N p q F G bs cs) (hp : WrPost w N p F bs' e w') : ∃ F', Two W w' N p q F' G bs' cs := by
  obtain ⟨_, F', hA, hK, hF⟩ := hp
  refine ⟨F', hA, h.b.keep hK (fun k g f => h.ap k f g), fun k f g => ?_, h.be.trans (hK.below h.a.size.1 (fun k f => (h.a.size.2.2 k f).1))⟩
  rcases hF k f with f | f
  · exact h.ap k f g
  · have := (h.b.size.2.2 k g).2; omega
theorem Two.right {W w w' : World} {N p q : Nat} {F G : Nat → Prop} {bs cs cs' : List Nat} {e : Ending} (h : Two W w N p q F G bs cs) (hp : WrPost w N q G cs' e w') : ∃ G', Two W w' N p q F G' bs cs' := by
  obtain ⟨G', h'⟩ := h.swap.left hp
  exact ⟨G', h'.swap⟩

def WriteRel (W : World) (N p q : Nat) (l : List Prt) (i : Value) (wr : World) : Prop :=
  ∃ j F G, j ≤ l.length ∧ i = .int .i64 (j : Nat) ∧ Two W wr N p q F G (prtL (l.take j)) (prtL (l.take j)) ∧ ∀ x ∈ l.take j, x.bs.length ≤ 100
def BackRel (W : World) (N p : Nat) (S : Nat → Prop) (l : List Prt) (i : Value) (wr : World) : Prop :=
  ∃ j, j ≤ l.length ∧ i = .int .i64 (j : Nat) ∧ RdOn W N p S (some (prtL (l.drop j))) wr

theorem take_ok {l : List Prt} {j : Nat} (hok : ∀ i (h : i < l.length), l[i].num < 18446744073709551616) (hb : ∀ x ∈ l.take j, x.bs.length ≤ 100) : ∀ x ∈ l.take j, x.num < 18446744073709551616 ∧ x.bs.length ≤ 100 := by
  intro x hx
  refine ⟨?_, hb x hx⟩
  obtain ⟨i, hi, rfl⟩ := List.getElem_of_mem hx
  rw [List.getElem_take]
  exact hok _ _
theorem take_more {l : List Prt} {j : Nat} (hj : j < l.length) (hb : ∀ x ∈ l.take j, x.bs.length ≤ 100) (h1 : l[j].bs.length ≤ 100) : ∀ x ∈ l.take (j + 1), x.bs.length ≤ 100 := by
  intro x hx
  rw [List.take_succ_eq_append_getElem hj] at hx
  rcases List.mem_append.1 hx with h | h
  · exact hb x h
  · rw [List.mem_singleton.1 h]; exact h1

theorem on_rtop {W w : World} {N p n : Nat} {S : Nat → Prop} {s s' : Option (List Nat)} (h : RdOn W N p S s w) (hr : numR 18446744073709551615 s = (n, s')) :
    Calls Try.prog 19 #[.pointer (some ⟨p, 0, none⟩), .int .u64 18446744073709551615] w fun e w' => e = .returned (.int .u64 (n : Nat)) ∧ RdOn W N p S s' w' := on_rnum (most := 18446744073709551615) h hr
theorem on_rstop {W w : World} {N p n : Nat} {S : Nat → Prop} {s s' : Option (List Nat)} (h : RdOn W N p S s w) (hr : setR 18446744073709551615 s = (n, s')) :
    Calls Try.prog 17 #[.pointer (some ⟨p, 0, none⟩), .int .u64 18446744073709551615] w fun e w' => e = .returned (.int .u64 (n : Nat)) ∧ RdOn W N p S s' w' := on_rset (t := 18446744073709551615) h (by decide) hr
theorem RdOn.drew {W w : World} {N p : Nat} {S : Nat → Prop} {s : Option (List Nat)} (h : RdOn W N p S s w) : RdOn W N p S s w.drew := h.below ⟨rfl, rfl, rfl, Nat.le_refl _, fun _ _ => rfl⟩
theorem rsame_is {a b : Nat} (w : World) (ha : a < 18446744073709551616) (hb : b < 18446744073709551616) (h : keyN a = keyN b) :
    Calls Try.prog 27 #[.float .f64 a, .float .f64 b] w fun e w' => e = .returned (.bool true) ∧ w = w' := by
  have := rsame_any a b w ha hb
  rw [show sameN a b = true by unfold sameN; simp [h]] at this
  exact this

theorem prtB_num {q : Prt} (h : q.kind = 0 ∨ q.kind = 1) : prtB q = lebL q.num := if_pos h
theorem prtB_flt {q : Prt} (h : q.kind = 2) : prtB q = beL (keyN q.flt) := by
  unfold prtB; rw [if_neg (by omega), if_pos h]
theorem prtB_bs {q : Prt} (h0 : ¬ q.kind = 0) (h1 : ¬ q.kind = 1) (h2 : ¬ q.kind = 2) : prtB q = lebL q.bs.length ++ q.bs := by
  unfold prtB; rw [if_neg (by omega), if_neg h2]

end Go.Proofs.Ythakbcfjpnielaa
