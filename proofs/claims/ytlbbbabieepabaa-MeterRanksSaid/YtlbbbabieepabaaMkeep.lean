/-
  A key is put among a meter's runs.
-/
import Derived.Test.YtlbbbabieepabaaMdel
import Derived.Deep.LoopGhost
namespace Go.Proofs.Ytlbbbabieepabaa
open Go.RowKit

theorem drewN_block (w : World) (q : Nat) (k : Nat) : (w.drewN q).heap[k]? = w.heap[k]? := rfl

theorem Mem.popped {w : World} {N p : Nat} {F : Nat → Prop} {s : MS} {g cap q : Nat} {vs1 : List Value} {x : Value} {rs1 : List (List Nat)} {kr : List Nat}
    (h : Mem w N p F s (.slice (some ⟨g, 0, none⟩) (rs1.length + 1) cap) (vs1 ++ [x]) (rs1 ++ [kr])) :
    Mem (((w.drewN q).setCell ⟨g, rs1.length, none⟩ (.slice none 0 0)).setCell ⟨p, 7, none⟩ (.slice (some ⟨g, 0, none⟩) rs1.length cap)) N p F s (.slice (some ⟨g, 0, none⟩) rs1.length cap) vs1 rs1 := by
  have hgp : g ≠ p := fun e => h.apart (by simp [Value.ownBlock, e])
  have hown : w.ownsRow N 58 1 (.slice (some ⟨g, 0, none⟩) (rs1.length + 1) cap) (rs1.length + 1) (vs1 ++ [x]) := by simpa using h.own
  have hl : vs1.length = rs1.length := by have := hown.1; simpa using this
  have hb1 : ∀ k, k ≠ g → ((w.drewN q).setCell ⟨g, rs1.length, none⟩ (.slice none 0 0)).heap[k]? = w.heap[k]? := fun k hk => Below.heap_setCell _ _ _ _ hk
  have hb2 : ∀ k, k ≠ g → k ≠ p → (((w.drewN q).setCell ⟨g, rs1.length, none⟩ (.slice none 0 0)).setCell ⟨p, 7, none⟩ (.slice (some ⟨g, 0, none⟩) rs1.length cap)).heap[k]? = w.heap[k]? := fun k hk hp => (Below.heap_setCell _ _ _ _ hp).trans (hb1 k hk)
  refine ⟨(h.cells.carry (hb1 p (Ne.symm hgp))).run _, ?_, ?_, h.inP, fun k hk => h.inO k (by simpa [Value.ownBlock] using hk), fun k f => by simpa [World.setCell] using h.low k f, fun e => hgp (by simpa [Value.ownBlock] using e), h.lts⟩
  · refine ownsRow_setCell_other ?_ (fun e => hgp (by simpa [Value.ownBlock] using e)) _
    have hs := (World.ownsRow.stored (w := w.drewN q) hown rs1.length (.slice none 0 0)).1
    rw [List.set_append_right _ _ (by omega), show rs1.length - vs1.length = 0 by omega] at hs
    exact own_shrink hs
  · obtain ⟨vs', v', e, h3, _⟩ := h.runs.unsnoc
    obtain ⟨rfl, _⟩ := List.append_inj' e (by simp)
    exact h3.carry (by simp [World.setCell]) (fun _ f => f) (fun k _ _ hp ho => ⟨hb2 k (fun e => ho (by simp [Value.ownBlock, e])) hp, by simpa [Value.ownBlock] using ho⟩)

theorem Mem.pushed {w w1 : World} {N p : Nat} {F : Nat → Prop} {s : MS} {v : Value} {g cap n : Nat} {vs : List Value} {x : Value} {rs : List (List Nat)} {ks : List Nat} {b o c : Nat}
    (h : Mem w N p F s v vs rs) (hx : x = .slice (some ⟨b, o, none⟩) ks.length c) (hc : ks.length ≤ c) (hcm : c ≤ maxLen) (hr : RunAt w b o ks) (hbp : b ≠ p) (hbv : v.ownBlock ≠ some b) (hNb : N ≤ b) (hn : n = rs.length + 1)
    (hown : w1.ownsRow N 58 1 (.slice (some ⟨g, 0, none⟩) n cap) n (vs ++ [x])) (hgr : w.grownBy w1 v.ownBlock) (hat : v.ownBlock = some g ∨ w.heap.size ≤ g) :
    Mem (w1.setCell ⟨p, 7, none⟩ (.slice (some ⟨g, 0, none⟩) n cap)) N p (fun k => F k ∨ k = b ∨ k = g) s (.slice (some ⟨g, 0, none⟩) n cap) (vs ++ [x]) (rs ++ [ks]) := by
  subst hn
  have hps := (h.low p h.inP).2
  have hgp : g ≠ p := by
    rcases hat with e | e
    · exact fun e' => h.apart (by rw [e, e'])
    · omega
  have hgb : g ≠ b := by
    rcases hat with e | e
    · exact fun e' => hbv (by rw [e, e'])
    · have := hr.inb; omega
  have hb1 : ∀ k, k < w.heap.size → v.ownBlock ≠ some k → w1.heap[k]? = w.heap[k]? := fun k hk hn => hgr.block k hk (fun e => hn e.symm)
  have hb2 : ∀ k, k < w.heap.size → v.ownBlock ≠ some k → k ≠ p → (w1.setCell ⟨p, 7, none⟩ (.slice (some ⟨g, 0, none⟩) (rs.length + 1) cap)).heap[k]? = w.heap[k]? := fun k hk hn hp => (Below.heap_setCell _ _ _ _ hp).trans (hb1 k hk hn)
  have hs : w.heap.size ≤ (w1.setCell ⟨p, 7, none⟩ (.slice (some ⟨g, 0, none⟩) (rs.length + 1) cap)).heap.size := by simpa [World.setCell] using hgr.size
  have hog : ∀ k, F k → k < w.heap.size → v.ownBlock ≠ some k → (Value.slice (some ⟨g, 0, none⟩) (rs.length + 1) cap).ownBlock ≠ some k := by
    intro k f hk hn e
    have e : g = k := by simpa [Value.ownBlock] using e
    rcases hat with e' | e'
    · exact hn (by rw [e', e])
    · omega
  have hlt := (hown.lt g rfl)
  refine ⟨(h.cells.carry (hb1 p hps h.apart)).run _, ?_, ?_, Or.inl h.inP, fun k hk => Or.inr (Or.inr ?_), fun k f => ?_, fun e => hgp (by simpa [Value.ownBlock] using e), h.lts⟩
  · refine ownsRow_setCell_other ?_ (fun e => hgp (by simpa [Value.ownBlock] using e)) _
    simpa using hown
  · refine RunsAt.snoc (h.runs.carry hs (fun _ f => Or.inl f) (fun k hk f hp ho => ⟨hb2 k hk ho hp, hog k f hk ho⟩)) ?_
    exact ⟨b, o, c, hx, hc, hcm, hr.carry hs (hb2 b hr.inb hbv hbp), Or.inr (Or.inl rfl), hbp, by simpa [Value.ownBlock] using hgb⟩
  · have : g = k := by simpa [Value.ownBlock] using hk
    exact this.symm
  · rcases f with f | rfl | rfl
    · exact ⟨(h.low k f).1, Nat.lt_of_lt_of_le (h.low k f).2 hs⟩
    · exact ⟨hNb, Nat.lt_of_lt_of_le hr.inb hs⟩
    · exact ⟨hlt.1, by simpa [World.setCell] using hlt.2⟩

theorem Mem.shape {w : World} {N p : Nat} {F : Nat → Prop} {s : MS} {v : Value} {vs : List Value} {rs : List (List Nat)} (h : Mem w N p F s v vs rs) :
    (rs = [] ∧ ∃ ao cap, v = .slice ao 0 cap) ∨ ∃ g cap, v = .slice (some ⟨g, 0, none⟩) rs.length cap ∧ rs.length ≤ cap ∧ cap ≤ maxLen := by
  rcases h.own.2 with ⟨rfl, e⟩ | ⟨g, cap, cur, rfl, _, _, h1, h2, _⟩
  · exact Or.inl ⟨List.length_eq_zero_iff.1 e, none, 0, rfl⟩
  · exact Or.inr ⟨g, cap, rfl, h1, h2⟩

end Go.Proofs.Ytlbbbabieepabaa
