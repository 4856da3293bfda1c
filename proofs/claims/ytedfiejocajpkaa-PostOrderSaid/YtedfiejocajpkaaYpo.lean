/-
  What waits, in boxes: how it lies in memory.
-/
import Derived.Test.YtedfiejocajpkaaVlan
import Derived.Test.YtedfiejocajpkaaYsel
namespace Go.Proofs.Ytedfiejocajpkaa
open Go.RowKit

def pV (b : Nat) : Value := .pointer (some ⟨b, 0, none⟩)
/-- Box j holds y, the others what they held. -/
def upd {β : Type} (B : Nat → β) (k : Nat) (y : β) : Nat → β := fun j => if j = k then y else B j
theorem upd_at {β : Type} (B : Nat → β) (k : Nat) (y : β) : upd B k y k = y := if_pos rfl
theorem upd_ne {β : Type} {B : Nat → β} {k j : Nat} {y : β} (h : j ≠ k) : upd B k y j = B j := if_neg h
theorem upd_same {β : Type} {B : Nat → β} {k : Nat} {y : β} (h : B k = y) : upd B k y = B := by
  funext j
  unfold upd
  split
  · subst_vars; rfl
  · rfl

/-- Has one come to this box? Is there room in it? -/
def hasB {α : Type} (n : Nat) (B : Nat → List α) (k : Int) : Bool := hasZ n k && !(B k.toNat).isEmpty
def canB {α : Type} (n room : Nat) (B : Nat → List α) (k : Int) : Bool := hasZ n k && decide ((B k.toNat).length < room)
def putB {α : Type} (n room : Nat) (B : Nat → List α) (k : Int) (x : α) : Nat → List α := if canB n room B k then upd B k.toNat (B k.toNat ++ [x]) else B
def popB {α : Type} (n : Nat) (B : Nat → List α) (k : Int) : Nat → List α := if hasB n B k then upd B k.toNat (B k.toNat).tail else B
def topB {α : Type} (z : α) (n : Nat) (B : Nat → List α) (k : Int) : α := if hasB n B k then (B k.toNat).headD z else z
def lenB {α : Type} (n : Nat) (B : Nat → List α) (k : Int) : Nat := if hasZ n k then (B k.toNat).length else 0

/-- Either's answer. -/
def eiN {α : Type} (n : Nat) (B : Nat → List α) (a b : Int) : Int := if hasB n B a then a else if hasB n B b then b else 0
def eiX {α : Type} (z : α) (n : Nat) (B : Nat → List α) (a b : Int) : α := if hasB n B a then topB z n B a else topB z n B b
def eiB {α : Type} (n : Nat) (B : Nat → List α) (a b : Int) : Nat → List α := if hasB n B a then popB n B a else popB n B b

/-- The boxes in memory: each a channel of its own, of pointers to cells of their own; all in blocks of F, from N on. -/
structure PoV {α : Type} (enc : α → Value) (w : World) (N p : Nat) (F : Nat → Prop) (n room : Nat) (b : Nat) (c : Nat → Nat) (L : Nat → List (Nat × α)) : Prop where
  c0 : w.cell? ⟨p, 0, none⟩ = some (.slice (some ⟨b, 0, none⟩) n n)
  row : ∀ k, k < n → w.cell? ⟨b, k, none⟩ = some (.chan (some (c k)))
  ch : ∀ k, k < n → ∃ s r, w.heap[c k]? = some (.chan room ((L k).map (fun e => pV e.1)).toArray false s r false)
  cell : ∀ k, k < n → ∀ e ∈ L k, w.cell? ⟨e.1, 0, none⟩ = some (enc e.2)
  inj : ∀ i j, i < n → j < n → c i = c j → i = j
  inP : F p
  inB : F b
  inC : ∀ k, k < n → F (c k)
  inL : ∀ k, k < n → ∀ e ∈ L k, F e.1
  low : ∀ k, F k → N ≤ k ∧ k < w.heap.size
  nn : 0 < n ∧ n ≤ 16
  rr : 0 < room ∧ room ≤ 64

def PoAt {α : Type} (enc : α → Value) (w : World) (N p : Nat) (F : Nat → Prop) (n room : Nat) (B : Nat → List α) : Prop :=
  ∃ b c L, PoV enc w N p F n room b c L ∧ ∀ k, k < n → (L k).map (·.2) = B k

/-- What a call leaves of an object: its result, the object as it then is, all else as it was. -/
def OPost (At : World → (Nat → Prop) → Prop) (W : World) (F : Nat → Prop) (r : Value) (E : Ending) (w' : World) : Prop :=
  E = .returned r ∧ ∃ F', At w' F' ∧ Keep F W w' ∧ ∀ k, F' k → F k ∨ W.heap.size ≤ k

theorem OPost.trans {At : World → (Nat → Prop) → Prop} {W w w' : World} {F F1 : Nat → Prop} {r : Value} {E : Ending} (hk : Keep F W w) (hF : ∀ k, F1 k → F k ∨ W.heap.size ≤ k) (h : OPost At w F1 r E w') : OPost At W F r E w' := by
  obtain ⟨he, F2, hA, hk2, hF2⟩ := h
  refine ⟨he, F2, hA, hk.trans hk2 (fun k hk f => (hF k f).elim id (fun l => by omega)), fun k f => ?_⟩
  rcases hF2 k f with g | g
  · exact hF k g
  · exact Or.inr (Nat.le_trans hk.size g)
theorem OPost.imp {At At' : World → (Nat → Prop) → Prop} {W w' : World} {F : Nat → Prop} {r : Value} {E : Ending} (hi : ∀ w F, At w F → At' w F) (h : OPost At W F r E w') : OPost At' W F r E w' := by
  obtain ⟨he, F2, hA, hk2, hF2⟩ := h
  exact ⟨he, F2, hi _ _ hA, hk2, hF2⟩

section
variable {α : Type} {enc : α → Value} {w w' : World} {N p n room b : Nat} {F G : Nat → Prop} {c : Nat → Nat} {L : Nat → List (Nat × α)} {B : Nat → List α}

theorem PoV.carry (h : PoV enc w N p F n room b c L) (hs : w.heap.size ≤ w'.heap.size) (hb : ∀ k, F k → w'.heap[k]? = w.heap[k]?) : PoV enc w' N p F n room b c L :=
  ⟨(World.cell?_of_block (w := w) (a := ⟨p, 0, none⟩) (hb p h.inP)).trans h.c0, fun k hk => (World.cell?_of_block (w := w) (a := ⟨b, k, none⟩) (hb b h.inB)).trans (h.row k hk),
    fun k hk => by obtain ⟨s, r, e⟩ := h.ch k hk; exact ⟨s, r, (hb _ (h.inC k hk)).trans e⟩,
    fun k hk e he => (World.cell?_of_block (w := w) (a := ⟨e.1, 0, none⟩) (hb _ (h.inL k hk e he))).trans (h.cell k hk e he), h.inj, h.inP, h.inB, h.inC, h.inL,
    fun k f => ⟨(h.low k f).1, Nat.lt_of_lt_of_le (h.low k f).2 hs⟩, h.nn, h.rr⟩
theorem PoV.below (h : PoV enc w N p F n room b c L) (hb : Below w.heap.size w w') : PoV enc w' N p F n room b c L := h.carry hb.size (fun k f => hb.block k (h.low k f).2)
theorem PoV.keep (h : PoV enc w N p F n room b c L) (hk : Keep G w w') (hFG : ∀ k, F k → ¬ G k) : PoV enc w' N p F n room b c L := h.carry hk.size (fun k f => hk.block k (h.low k f).2 (hFG k f))
theorem PoAt.below (h : PoAt enc w N p F n room B) (hb : Below w.heap.size w w') : PoAt enc w' N p F n room B := by
  obtain ⟨b, c, L, hv, e⟩ := h
  exact ⟨b, c, L, hv.below hb, e⟩
theorem PoAt.keep (h : PoAt enc w N p F n room B) (hk : Keep G w w') (hFG : ∀ k, F k → ¬ G k) : PoAt enc w' N p F n room B := by
  obtain ⟨b, c, L, hv, e⟩ := h
  exact ⟨b, c, L, hv.keep hk hFG, e⟩
theorem PoAt.drewN (h : PoAt enc w N p F n room B) (q : Nat) : PoAt enc (w.drewN q) N p F n room B := h.below ⟨rfl, rfl, rfl, Nat.le_refl _, fun _ _ => rfl⟩
theorem PoAt.size (h : PoAt enc w N p F n room B) : N ≤ w.heap.size ∧ p < w.heap.size ∧ ∀ k, F k → N ≤ k ∧ k < w.heap.size := by
  obtain ⟨b, c, L, hv, _⟩ := h
  have := hv.low p hv.inP
  exact ⟨by omega, by omega, hv.low⟩
theorem PoAt.nn (h : PoAt enc w N p F n room B) : 0 < n ∧ n ≤ 16 ∧ 0 < room ∧ room ≤ 64 := by
  obtain ⟨b, c, L, hv, _⟩ := h
  exact ⟨hv.nn.1, hv.nn.2, hv.rr⟩

theorem cell_setChan {w : World} {d room : Nat} {buf : Array Value} {s r : Nat} {a : Addr} {u : Value} {rm s0 r0 : Nat} {bf : Array Value} (hd : w.heap[d]? = some (.chan rm bf false s0 r0 false)) (h : w.cell? a = some u) :
    (w.setChan d room buf false s r false).cell? a = some u := by
  by_cases e : a.block = d
  · exfalso
    subst e
    unfold World.cell? at h
    rw [hd] at h
    simp at h
  · exact (World.cell?_of_block (w := w) (setChan_other w d a.block room buf false s r false (Ne.symm e))).trans h

/-- A box's channel turned. -/
theorem PoV.set (h : PoV enc w N p F n room b c L) {k : Nat} (hk : k < n) (l : List (Nat × α)) (s r : Nat) (hl : ∀ e ∈ l, F e.1 ∧ w.cell? ⟨e.1, 0, none⟩ = some (enc e.2)) :
    PoV enc (w.setChan (c k) room (l.map (fun e => pV e.1)).toArray false s r false) N p F n room b c (upd L k l) := by
  obtain ⟨s0, r0, hc⟩ := h.ch k hk
  refine ⟨cell_setChan hc h.c0, fun j hj => cell_setChan hc (h.row j hj), fun j hj => ?_, fun j hj e he => ?_, h.inj, h.inP, h.inB, h.inC, fun j hj e he => ?_, fun j f => by simpa [World.setChan] using h.low j f, h.nn, h.rr⟩
  · by_cases e : j = k
    · subst e
      rw [upd_at]
      exact ⟨s, r, Go.Conc.heap_setChan _ _ _ _ _ _ _ _ (h.low _ (h.inC j hj)).2⟩
    · rw [upd_ne e, setChan_other _ _ _ _ _ _ _ _ _ (fun e2 => e (h.inj k j hk hj e2).symm)]
      exact h.ch j hj
  · by_cases e2 : j = k
    · subst e2
      rw [upd_at] at he
      exact cell_setChan hc (hl e he).2
    · rw [upd_ne e2] at he
      exact cell_setChan hc (h.cell j hj e he)
  · by_cases e2 : j = k
    · subst e2
      rw [upd_at] at he
      exact (hl e he).1
    · rw [upd_ne e2] at he
      exact h.inL j hj e he

theorem Keep.setChan {F : Nat → Prop} {a b : World} (h : Keep F a b) {c : Nat} (hc : F c) (room : Nat) (buf : Array Value) (s r : Nat) : Keep F a (b.setChan c room buf false s r false) :=
  h.trans (G := fun i => i = c) ⟨rfl, rfl, rfl, by simp [World.setChan], fun k hk hn => setChan_other _ _ _ _ _ _ _ _ _ (fun e => hn e.symm)⟩ (fun _ _ e => e ▸ hc)

/-- More blocks are its own. -/
theorem PoV.wide (h : PoV enc w N p F n room b c L) {F' : Nat → Prop} (hF : ∀ k, F k → F' k) (hlow : ∀ k, F' k → N ≤ k ∧ k < w.heap.size) : PoV enc w N p F' n room b c L :=
  ⟨h.c0, h.row, h.ch, h.cell, h.inj, hF _ h.inP, hF _ h.inB, fun k hk => hF _ (h.inC k hk), fun k hk e he => hF _ (h.inL k hk e he), hlow, h.nn, h.rr⟩
end

section
variable {α : Type} {n room : Nat} {B : Nat → List α} {k : Nat} {x z : α} {t : List α}
theorem hasB_nat {i : Int} (h : hasB n B i = true) : ∃ k : Nat, i = k ∧ k < n ∧ ∃ x t, B k = x :: t := by
  unfold hasB at h
  rw [Bool.and_eq_true] at h
  obtain ⟨k, rfl, hk⟩ := hasZ_nat h.1
  have h2 := h.2
  rw [Int.toNat_natCast] at h2
  cases e : B k with
  | nil => rw [e] at h2; simp at h2
  | cons x t => exact ⟨k, rfl, hk, x, t, e⟩
theorem hasB_cons (hk : k < n) (e : B k = x :: t) : hasB n B (k : Int) = true := by unfold hasB; rw [hasZ_lt hk, Int.toNat_natCast, e]; rfl
theorem hasB_nil (e : B k = []) : hasB n B (k : Int) = false := by unfold hasB; rw [Int.toNat_natCast, e]; simp
theorem popB_cons (hk : k < n) (e : B k = x :: t) : popB n B (k : Int) = upd B k t := by unfold popB; rw [if_pos (hasB_cons hk e), Int.toNat_natCast, e]; rfl
theorem topB_cons (hk : k < n) (e : B k = x :: t) : topB z n B (k : Int) = x := by unfold topB; rw [if_pos (hasB_cons hk e), Int.toNat_natCast, e]; rfl
theorem popB_no {i : Int} (h : hasB n B i = false) : popB n B i = B := by unfold popB; rw [if_neg (by simp [h])]
theorem topB_no {i : Int} (h : hasB n B i = false) : topB z n B i = z := by unfold topB; rw [if_neg (by simp [h])]
theorem canB_nat {i : Int} (h : canB n room B i = true) : ∃ k : Nat, i = k ∧ k < n ∧ (B k).length < room := by
  unfold canB at h
  rw [Bool.and_eq_true] at h
  obtain ⟨k, rfl, hk⟩ := hasZ_nat h.1
  exact ⟨k, rfl, hk, by simpa using h.2⟩
theorem putB_ok (hk : k < n) (h : (B k).length < room) : putB n room B (k : Int) x = upd B k (B k ++ [x]) := by
  unfold putB canB
  rw [hasZ_lt hk, Int.toNat_natCast, decide_eq_true h]
  rfl
theorem putB_no {i : Int} (h : canB n room B i = false) : putB n room B i x = B := by unfold putB; rw [if_neg (by simp [h])]
theorem lenB_nat (hk : k < n) : lenB n B (k : Int) = (B k).length := by unfold lenB; rw [if_pos (hasZ_lt hk), Int.toNat_natCast]
/-- The least box that has one, or none. -/
theorem least_ex (n : Nat) (B : Nat → List α) : ∃ m, m ≤ n ∧ (∀ j, j < m → B j = []) ∧ (m < n → B m ≠ []) := by
  induction n with
  | zero => exact ⟨0, Nat.le_refl _, fun j h => by omega, fun h => by omega⟩
  | succ n ih =>
    obtain ⟨m, h1, h2, h3⟩ := ih
    by_cases hm : m < n
    · exact ⟨m, by omega, h2, fun _ => h3 hm⟩
    · obtain rfl : m = n := by omega
      cases e : B m with
      | nil =>
        refine ⟨m + 1, by omega, fun j h => ?_, fun h => by omega⟩
        rcases Nat.lt_succ_iff_lt_or_eq.1 h with h | rfl
        · exact h2 j h
        · exact e
      | cons x t => exact ⟨m, by omega, h2, fun _ => by simp [e]⟩
end

end Go.Proofs.Ytedfiejocajpkaa
