/-
  A ship: what is out, what waits, how it lies in memory.
-/
import Derived.Test.YtmahbmmeeifaiaaGclo
import Derived.Test.YtmahbmmeeifaiaaKpt
namespace Go.Proofs.Ytmahbmmeeifaiaa
open Go.RowKit

def shC (win que : Nat) (vo vw : Value) (last q : Nat) : Nat → Value
  | 0 => .int .i64 (win : Nat)
  | 1 => .int .i64 (que : Nat)
  | 2 => vo
  | 3 => vw
  | 4 => .int .u64 (last : Nat)
  | _ => .pointer (some ⟨q, 0, none⟩)

/-- Blocks that bodies may lie in. -/
def Bods (F : Nat → Prop) (p q : Nat) (vo vw : Value) (k : Nat) : Prop := F k ∧ k ≠ p ∧ k ≠ q ∧ vo.ownBlock ≠ some k ∧ vw.ownBlock ≠ some k

/-- A ship's memory: its block p, its alarm's q, the row of what is out, the row of what waits, the bodies; all in blocks of F, from N on. -/
structure ShR (w : World) (N p q : Nat) (F : Nat → Prop) (win que g last : Nat) (P : Pa) (vo vw : Value) (LO LW : List Bd) : Prop where
  c : Cel 6 w p (shC win que vo vw last q)
  pa : PaAt w q P
  oo : w.ownsRow N 61 2 vo LO.length (itC g LO)
  ow : w.ownsRow N 30 1 vw LW.length (LW.map bdV)
  bo : ∀ b ∈ LO ++ LW, BodyV (Bods F p q vo vw) w b
  ne : p ≠ q
  op : vo.ownBlock ≠ some p ∧ vo.ownBlock ≠ some q
  wp : vw.ownBlock ≠ some p ∧ vw.ownBlock ≠ some q
  ap : ∀ k, vo.ownBlock = some k → vw.ownBlock ≠ some k
  inp : F p
  inq : F q
  ino : ∀ k, vo.ownBlock = some k → F k
  inw : ∀ k, vw.ownBlock = some k → F k
  low : ∀ k, F k → N ≤ k ∧ k < w.heap.size

/-- The blocks that a call may write into. -/
def Turns (p : Nat) (vo vw : Value) (k : Nat) : Prop := k = p ∨ vo.ownBlock = some k ∨ vw.ownBlock = some k

section
variable {w w' : World} {N p q : Nat} {F G : Nat → Prop} {win que g last : Nat} {P : Pa} {vo vw : Value} {LO LW : List Bd}

theorem ShR.cells (h : ShR w N p q F win que g last P vo vw LO LW) : w.cell? ⟨p, 0, none⟩ = some (.int .i64 (win : Nat)) ∧ w.cell? ⟨p, 1, none⟩ = some (.int .i64 (que : Nat)) ∧ w.cell? ⟨p, 2, none⟩ = some vo ∧ w.cell? ⟨p, 3, none⟩ = some vw ∧
    w.cell? ⟨p, 4, none⟩ = some (.int .u64 (last : Nat)) ∧ w.cell? ⟨p, 5, none⟩ = some (.pointer (some ⟨q, 0, none⟩)) :=
  ⟨h.c.c 0 (by decide), h.c.c 1 (by decide), h.c.c 2 (by decide), h.c.c 3 (by decide), h.c.c 4 (by decide), h.c.c 5 (by decide)⟩

theorem ShR.carry (h : ShR w N p q F win que g last P vo vw LO LW) (hs : w.heap.size ≤ w'.heap.size) (hb : ∀ k, F k → w'.heap[k]? = w.heap[k]?) : ShR w' N p q F win que g last P vo vw LO LW := by
  refine ⟨⟨fun o ho => (World.cell?_of_block (w := w) (a := ⟨p, o, none⟩) (hb p h.inp)).trans (h.c.c o ho), fun o => (World.frozen?_of_block (w := w) (a := ⟨p, o, none⟩) (hb p h.inp)).trans (h.c.fz o), Nat.lt_of_lt_of_le h.c.lt hs⟩,
    ⟨fun o ho => (World.cell?_of_block (w := w) (a := ⟨q, o, none⟩) (hb q h.inq)).trans (h.pa.c o ho), fun o => (World.frozen?_of_block (w := w) (a := ⟨q, o, none⟩) (hb q h.inq)).trans (h.pa.fz o), Nat.lt_of_lt_of_le h.pa.lt hs⟩,
    own_carry h.oo (fun k hk => hb k (h.ino k hk)), own_carry h.ow (fun k hk => hb k (h.inw k hk)), fun b hb' => (h.bo b hb').carry hs (fun k _ hk => hb k hk.1), h.ne, h.op, h.wp, h.ap, h.inp, h.inq, h.ino, h.inw, fun k hk => ⟨(h.low k hk).1, Nat.lt_of_lt_of_le (h.low k hk).2 hs⟩⟩
theorem ShR.below (h : ShR w N p q F win que g last P vo vw LO LW) (hb : Below w.heap.size w w') : ShR w' N p q F win que g last P vo vw LO LW := h.carry hb.size (fun k hk => hb.block k (h.low k hk).2)
theorem ShR.keep (h : ShR w N p q F win que g last P vo vw LO LW) (hk : Keep G w w') (hFG : ∀ k, F k → ¬ G k) : ShR w' N p q F win que g last P vo vw LO LW := h.carry hk.size (fun k hf => hk.block k (h.low k hf).2 (hFG k hf))
theorem ShR.drewN (h : ShR w N p q F win que g last P vo vw LO LW) (n : Nat) : ShR (w.drewN n) N p q F win que g last P vo vw LO LW := h.below ⟨rfl, rfl, rfl, Nat.le_refl _, fun _ _ => rfl⟩
theorem ShR.drew (h : ShR w N p q F win que g last P vo vw LO LW) : ShR w.drew N p q F win que g last P vo vw LO LW := h.below (drew_below w)
theorem ShR.turns (h : ShR w N p q F win que g last P vo vw LO LW) : ∀ k, Turns p vo vw k → F k := by
  rintro k (rfl | e | e)
  · exact h.inp
  · exact h.ino k e
  · exact h.inw k e
theorem ShR.nle (h : ShR w N p q F win que g last P vo vw LO LW) : N ≤ w.heap.size := by
  have := h.low p h.inp
  omega

/-- Its rows and its cells turned. -/
theorem ShR.turn {g' last' : Nat} {vo' vw' : Value} {LO' LW' : List Bd} (h : ShR w N p q F win que g last P vo vw LO LW) (hk : Keep (Turns p vo vw) w w')
    (hc : Cel 6 w' p (shC win que vo' vw' last' q)) (hoo : w'.ownsRow N 61 2 vo' LO'.length (itC g' LO')) (how : w'.ownsRow N 30 1 vw' LW'.length (LW'.map bdV))
    (hvo : ∀ k, vo'.ownBlock = some k → vo.ownBlock = some k ∨ w.heap.size ≤ k) (hvw : ∀ k, vw'.ownBlock = some k → vw.ownBlock = some k ∨ w.heap.size ≤ k)
    (hap : ∀ k, vo'.ownBlock = some k → vw'.ownBlock ≠ some k)
    (hb : ∀ b ∈ LO' ++ LW', b ∈ LO ++ LW ∨ BodyV (fun k => w.heap.size ≤ k ∧ vo'.ownBlock ≠ some k ∧ vw'.ownBlock ≠ some k) w' b) :
    ShR w' N p q (fun k => F k ∨ (w.heap.size ≤ k ∧ k < w'.heap.size)) win que g' last' P vo' vw' LO' LW' := by
  have hpl := (h.low p h.inp).2
  have hql := (h.low q h.inq).2
  have hN := h.nle
  refine ⟨hc, Cel.keep h.pa hk (fun e => ?_), hoo, how, fun b hb' => ?_, h.ne, ⟨fun e => ?_, fun e => ?_⟩, ⟨fun e => ?_, fun e => ?_⟩, hap, Or.inl h.inp, Or.inl h.inq, fun k e => ?_, fun k e => ?_, fun k hk' => ?_⟩
  · rcases e with e | e | e
    · exact h.ne e.symm
    · exact h.op.2 e
    · exact h.wp.2 e
  · rcases hb b hb' with h1 | h1
    · refine (((h.bo b h1).mono (A' := fun k => Bods F p q vo vw k ∧ k < w.heap.size) (fun k hk' hA => ⟨hA, hk'⟩)).carry hk.size (fun k hk' hA => hk.block k hk' (fun e => ?_))).mono (fun k _ hA => ⟨Or.inl hA.1.1, hA.1.2.1, hA.1.2.2.1, fun e => ?_, fun e => ?_⟩)
      · rcases e with e | e | e
        · exact hA.1.2.1 e
        · exact hA.1.2.2.2.1 e
        · exact hA.1.2.2.2.2 e
      · rcases hvo k e with e | e
        · exact hA.1.2.2.2.1 e
        · have := hA.2
          omega
      · rcases hvw k e with e | e
        · exact hA.1.2.2.2.2 e
        · have := hA.2
          omega
    · exact h1.mono (fun k hk' hA => ⟨Or.inr ⟨hA.1, hk'⟩, fun e => by have := hA.1; omega, fun e => by have := hA.1; omega, hA.2.1, hA.2.2⟩)
  · exact (hvo p e).elim h.op.1 (fun l => by omega)
  · exact (hvo q e).elim h.op.2 (fun l => by omega)
  · exact (hvw p e).elim h.wp.1 (fun l => by omega)
  · exact (hvw q e).elim h.wp.2 (fun l => by omega)
  · exact (hvo k e).imp (h.ino k) (fun l => ⟨l, (hoo.lt k e).2⟩)
  · exact (hvw k e).imp (h.inw k) (fun l => ⟨l, (how.lt k e).2⟩)
  · have := hk.size
    rcases hk' with hk' | hk'
    · have := h.low k hk'
      omega
    · omega

/-- Its alarm turned. -/
theorem ShR.alarm {P2 : Pa} {r : Value} {E : Ending} (h : ShR w N p q F win que g last P vo vw LO LW) (hp : PaPost P2 w q r E w') : E = .returned r ∧ ShR w' N p q F win que g last P2 vo vw LO LW ∧ Keep F w w' := by
  obtain ⟨he, hA, hK⟩ := hp
  have hs := hK.size
  have hb : ∀ k, k < w.heap.size → k ≠ q → w'.heap[k]? = w.heap[k]? := fun k hk hn => hK.block k hk hn
  refine ⟨he, ⟨h.c.keep hK h.ne, hA, own_carry h.oo (fun k hk => hb k (h.oo.lt k hk).2 (fun e => h.op.2 (e ▸ hk))), own_carry h.ow (fun k hk => hb k (h.ow.lt k hk).2 (fun e => h.wp.2 (e ▸ hk))),
    fun b hb' => (h.bo b hb').carry hs (fun k hk hA => hb k hk hA.2.2.1), h.ne, h.op, h.wp, h.ap, h.inp, h.inq, h.ino, h.inw, fun k hk => ⟨(h.low k hk).1, Nat.lt_of_lt_of_le (h.low k hk).2 hs⟩⟩, hK.mono (fun k e => e ▸ h.inq)⟩
end

/-! What it does, without its memory: all that was pushed, and how many are no more. -/
structure Sh where
  win : Nat
  que : Nat
  g : Nat
  all : List ByteArray
  pa : Pa
def Sh.n (S : Sh) : Nat := min S.win (S.all.length - S.g)
def Sh.last (S : Sh) : Nat := S.g + S.n
def Sh.out (S : Sh) : List ByteArray := (S.all.drop S.g).take S.n
def Sh.waits (S : Sh) : List ByteArray := S.all.drop (S.g + S.n)
def Sh.room (S : Sh) (r : Bool) : Bool := decide ((S.waits.length : Int) < if r then (S.que : Int) else (S.que : Int) - 1)
def Sh.push (S : Sh) (s : ByteArray) : Sh := { S with all := S.all ++ [s], pa := S.pa.start }
def Sh.acks (S : Sh) (n : Nat) : Bool := decide (S.g < n ∧ n ≤ S.last)
def Sh.ack (S : Sh) (n : Nat) : Sh := { S with g := n, pa := if S.all.length ≤ n then S.pa.stop else S.pa.stop.start }
def Sh.tick (S : Sh) : Sh := { S with pa := S.pa.tick }
/-- What goes out between two states: with numbers from S.last + 1 on. -/
def Sh.went (S T : Sh) : List ByteArray := (T.all.drop S.last).take (T.last - S.last)

def Sh.new (w q f m : Nat) : Sh := ⟨w, q, 0, [], Pa.new f m⟩
theorem new_last (w q f m : Nat) : (Sh.new w q f m).last = 0 := by
  show 0 + min w (0 - 0) = 0
  omega

structure Sh.ok (S : Sh) (n : Nat) : Prop where
  win : 1 ≤ S.win ∧ S.win ≤ 16
  que : 2 ≤ S.que ∧ S.que ≤ 32
  g : S.g ≤ S.all.length
  all : S.all.length ≤ n
  low : S.waits.length ≤ S.que
  pa : S.pa.ok n
  runs : 0 < S.pa.l ↔ S.g < S.all.length
  small : ∀ s ∈ S.all, s.size ≤ 1000

/-- It lies so. -/
def ShAt (w : World) (N p : Nat) (F : Nat → Prop) (S : Sh) : Prop :=
  ∃ q vo vw LO LW, ShR w N p q F S.win S.que S.g S.last S.pa vo vw LO LW ∧ LO.map Bd.s = S.out ∧ LW.map Bd.s = S.waits
section
variable {w w' : World} {N p n : Nat} {F G : Nat → Prop} {S : Sh}
theorem ShAt.below (h : ShAt w N p F S) (hb : Below w.heap.size w w') : ShAt w' N p F S := by
  obtain ⟨q, vo, vw, LO, LW, hR, e⟩ := h
  exact ⟨q, vo, vw, LO, LW, hR.below hb, e⟩
theorem ShAt.keep (h : ShAt w N p F S) (hk : Keep G w w') (hFG : ∀ k, F k → ¬ G k) : ShAt w' N p F S := by
  obtain ⟨q, vo, vw, LO, LW, hR, e⟩ := h
  exact ⟨q, vo, vw, LO, LW, hR.keep hk hFG, e⟩
theorem ShAt.drewN (h : ShAt w N p F S) (k : Nat) : ShAt (w.drewN k) N p F S := h.below ⟨rfl, rfl, rfl, Nat.le_refl _, fun _ _ => rfl⟩
theorem ShAt.size (h : ShAt w N p F S) : N ≤ w.heap.size ∧ p < w.heap.size ∧ ∀ k, F k → N ≤ k ∧ k < w.heap.size := by
  obtain ⟨q, vo, vw, LO, LW, hR, e⟩ := h
  exact ⟨hR.nle, (hR.low p hR.inp).2, hR.low⟩

theorem Sh.n_le (S : Sh) : S.n ≤ S.win ∧ S.n ≤ S.all.length - S.g := ⟨Nat.min_le_left _ _, Nat.min_le_right _ _⟩
theorem Sh.out_len (S : Sh) : S.out.length = S.n := by
  unfold Sh.out
  rw [List.length_take, List.length_drop]
  exact Nat.min_eq_left S.n_le.2
theorem Sh.waits_len (S : Sh) : S.waits.length = S.all.length - S.g - S.n := by
  unfold Sh.waits
  rw [List.length_drop]
  omega
theorem Sh.mem_out {s : ByteArray} (h : s ∈ S.out) : s ∈ S.all := List.mem_of_mem_drop (List.mem_of_mem_take h)
theorem Sh.mem_waits {s : ByteArray} (h : s ∈ S.waits) : s ∈ S.all := List.mem_of_mem_drop h
theorem Sh.ok.more {k : Nat} (h : S.ok n) (hk : n ≤ k) : S.ok k := ⟨h.win, h.que, h.g, Nat.le_trans h.all hk, h.low, h.pa.more hk, h.runs, h.small⟩
theorem Sh.ok.last_le (h : S.ok n) : S.last ≤ n := by
  have := S.n_le
  have := h.g
  have := h.all
  unfold Sh.last
  omega
end

end Go.Proofs.Ytmahbmmeeifaiaa
