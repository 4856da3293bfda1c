/-
  Texts of this claim, put together.
-/
import Derived.Test.YtfbojcaedcimcaaMac
import Derived.Test.YtfbojcaedcimcaaMad

/-
  A ship: what is out, what waits, how it lies in memory.
-/
namespace Go.Proofs.Ytfbojcaedcimcaa
open Go.RowKit

def shC (win que : Nat) (vo vw : Value) (last q : Nat) : Nat → Value
  | 0 => .int .i64 (win : Nat)
  | 1 => .int .i64 (que : Nat)
  | 2 => vo
  | 3 => vw
  | 4 => .int .u64 (last : Nat)
  | _ => .pointer (some ⟨q, 0, none⟩)

/-- Blocks that bodies may lie in. -/
def Bods (F : Nat → Prop) (p q : Nat) (vo vw : Value) (k : Nat) : Prop := F k ∧ k ≠ p ∧ k ≠ q ∧ vo.ownBlock ≠ some k ∧ vw.ownBlock ≠ some k

/-- A ship's memory: its block p, its alarm's q, the row of what is out, the row of what waits, the bodies; all in blocks of F, from N on. -/
structure ShR (w : World) (N p q : Nat) (F : Nat → Prop) (win que g last : Nat) (P : Pa) (vo vw : Value) (LO LW : List Bd) : Prop where
  c : Cel 6 w p (shC win que vo vw last q)
  pa : PaAt w q P
  oo : w.ownsRow N 80 2 vo LO.length (itC g LO)
  ow : w.ownsRow N 30 1 vw LW.length (LW.map bdV)
  bo : ∀ b ∈ LO ++ LW, BodyV (Bods F p q vo vw) w b
  ne : p ≠ q
  op : vo.ownBlock ≠ some p ∧ vo.ownBlock ≠ some q
  wp : vw.ownBlock ≠ some p ∧ vw.ownBlock ≠ some q
  ap : ∀ k, vo.ownBlock = some k → vw.ownBlock ≠ some k
  inp : F p
  inq : F q
  ino : ∀ k, vo.ownBlock = some k → F k
  inw : ∀ k, vw.ownBlock = some k → F k
  low : ∀ k, F k → N ≤ k ∧ k < w.heap.size

/-- The blocks that a call may write into. -/
def Turns (p : Nat) (vo vw : Value) (k : Nat) : Prop := k = p ∨ vo.ownBlock = some k ∨ vw.ownBlock = some k

section
variable {w w' : World} {N p q : Nat} {F G : Nat → Prop} {win que g last : Nat} {P : Pa} {vo vw : Value} {LO LW : List Bd}

theorem ShR.cells (h : ShR w N p q F win que g last P vo vw LO LW) : w.cell? ⟨p, 0, none⟩ = some (.int .i64 (win : Nat)) ∧ w.cell? ⟨p, 1, none⟩ = some (.int .i64 (que : Nat)) ∧ w.cell? ⟨p, 2, none⟩ = some vo ∧ w.cell? ⟨p, 3, none⟩ = some vw ∧
    w.cell? ⟨p, 4, none⟩ = some (.int .u64 (last : Nat)) ∧ w.cell? ⟨p, 5, none⟩ = some (.pointer (some ⟨q, 0, none⟩)) :=
  ⟨h.c.c 0 (by decide), h.c.c 1 (by decide), h.c.c 2 (by decide), h.c.c 3 (by decide), h.c.c 4 (by decide), h.c.c 5 (by decide)⟩

theorem ShR.carry (h : ShR w N p q F win que g last P vo vw LO LW) (hs : w.heap.size ≤ w'.heap.size) (hb : ∀ k, F k → w'.heap[k]? = w.heap[k]?) : ShR w' N p q F win que g last P vo vw LO LW := by
  refine ⟨⟨fun o ho => (World.cell?_of_block (w := w) (a := ⟨p, o, none⟩) (hb p h.inp)).trans (h.c.c o ho), fun o => (World.frozen?_of_block (w := w) (a := ⟨p, o, none⟩) (hb p h.inp)).trans (h.c.fz o), Nat.lt_of_lt_of_le h.c.lt hs⟩,
    ⟨fun o ho => (World.cell?_of_block (w := w) (a := ⟨q, o, none⟩) (hb q h.inq)).trans (h.pa.c o ho), fun o => (World.frozen?_of_block (w := w) (a := ⟨q, o, none⟩) (hb q h.inq)).trans (h.pa.fz o), Nat.lt_of_lt_of_le h.pa.lt hs⟩,
    own_carry h.oo (fun k hk => hb k (h.ino k hk)), own_carry h.ow (fun k hk => hb k (h.inw k hk)), fun b hb' => (h.bo b hb').carry hs (fun k _ hk => hb k hk.1), h.ne, h.op, h.wp, h.ap, h.inp, h.inq, h.ino, h.inw, fun k hk => ⟨(h.low k hk).1, Nat.lt_of_lt_of_le (h.low k hk).2 hs⟩⟩
theorem ShR.below (h : ShR w N p q F win que g last P vo vw LO LW) (hb : Below w.heap.size w w') : ShR w' N p q F win que g last P vo vw LO LW := h.carry hb.size (fun k hk => hb.block k (h.low k hk).2)
theorem ShR.keep (h : ShR w N p q F win que g last P vo vw LO LW) (hk : Keep G w w') (hFG : ∀ k, F k → ¬ G k) : ShR w' N p q F win que g last P vo vw LO LW := h.carry hk.size (fun k hf => hk.block k (h.low k hf).2 (hFG k hf))
theorem ShR.drewN (h : ShR w N p q F win que g last P vo vw LO LW) (n : Nat) : ShR (w.drewN n) N p q F win que g last P vo vw LO LW := h.below ⟨rfl, rfl, rfl, Nat.le_refl _, fun _ _ => rfl⟩
theorem ShR.drew (h : ShR w N p q F win que g last P vo vw LO LW) : ShR w.drew N p q F win que g last P vo vw LO LW := h.below (drew_below w)
theorem ShR.turns (h : ShR w N p q F win que g last P vo vw LO LW) : ∀ k, Turns p vo vw k → F k := by
  rintro k (rfl | e | e)
  · exact h.inp
  · exact h.ino k e
  · exact h.inw k e
theorem ShR.nle (h : ShR w N p q F win que g last P vo vw LO LW) : N ≤ w.heap.size := by
  have := h.low p h.inp
  omega

/-- Its rows and its cells turned. -/
theorem ShR.turn {g' last' : Nat} {vo' vw' : Value} {LO' LW' : List Bd} (h : ShR w N p q F win que g last P vo vw LO LW) (hk : Keep (Turns p vo vw) w w')
    (hc : Cel 6 w' p (shC win que vo' vw' last' q)) (hoo : w'.ownsRow N 80 2 vo' LO'.length (itC g' LO')) (how : w'.ownsRow N 30 1 vw' LW'.length (LW'.map bdV))
    (hvo : ∀ k, vo'.ownBlock = some k → vo.ownBlock = some k ∨ w.heap.size ≤ k) (hvw : ∀ k, vw'.ownBlock = some k → vw.ownBlock = some k ∨ w.heap.size ≤ k)
    (hap : ∀ k, vo'.ownBlock = some k → vw'.ownBlock ≠ some k)
    (hb : ∀ b ∈ LO' ++ LW', b ∈ LO ++ LW ∨ BodyV (fun k => w.heap.size ≤ k ∧ vo'.ownBlock ≠ some k ∧ vw'.ownBlock ≠ some k) w' b) :
    ShR w' N p q (fun k => F k ∨ (w.heap.size ≤ k ∧ k < w'.heap.size)) win que g' last' P vo' vw' LO' LW' := by
  have hpl := (h.low p h.inp).2
  have hql := (h.low q h.inq).2
  have hN := h.nle
  refine ⟨hc, Cel.keep h.pa hk (fun e => ?_), hoo, how, fun b hb' => ?_, h.ne, ⟨fun e => ?_, fun e => ?_⟩, ⟨fun e => ?_, fun e => ?_⟩, hap, Or.inl h.inp, Or.inl h.inq, fun k e => ?_, fun k e => ?_, fun k hk' => ?_⟩
  · rcases e with e | e | e
    · exact h.ne e.symm
    · exact h.op.2 e
    · exact h.wp.2 e
  · rcases hb b hb' with h1 | h1
    · refine (((h.bo b h1).mono (A' := fun k => Bods F p q vo vw k ∧ k < w.heap.size) (fun k hk' hA => ⟨hA, hk'⟩)).carry hk.size (fun k hk' hA => hk.block k hk' (fun e => ?_))).mono (fun k _ hA => ⟨Or.inl hA.1.1, hA.1.2.1, hA.1.2.2.1, fun e => ?_, fun e => ?_⟩)
      · rcases e with e | e | e
        · exact hA.1.2.1 e
        · exact hA.1.2.2.2.1 e
        · exact hA.1.2.2.2.2 e
      · rcases hvo k e with e | e
        · exact hA.1.2.2.2.1 e
        · have := hA.2
          omega
      · rcases hvw k e with e | e
        · exact hA.1.2.2.2.2 e
        · have := hA.2
          omega
    · exact h1.mono (fun k hk' hA => ⟨Or.inr ⟨hA.1, hk'⟩, fun e => by have := hA.1; omega, fun e => by have := hA.1; omega, hA.2.1, hA.2.2⟩)
  · exact (hvo p e).elim h.op.1 (fun l => by omega)
  · exact (hvo q e).elim h.op.2 (fun l => by omega)
  · exact (hvw p e).elim h.wp.1 (fun l => by omega)
  · exact (hvw q e).elim h.wp.2 (fun l => by omega)
  · exact (hvo k e).imp (h.ino k) (fun l => ⟨l, (hoo.lt k e).2⟩)
  · exact (hvw k e).imp (h.inw k) (fun l => ⟨l, (how.lt k e).2⟩)
  · have := hk.size
    rcases hk' with hk' | hk'
    · have := h.low k hk'
      omega
    · omega

/-- Its alarm turned. -/
theorem ShR.alarm {P2 : Pa} {r : Value} {E : Ending} (h : ShR w N p q F win que g last P vo vw LO LW) (hp : PaPost P2 w q r E w') : E = .returned r ∧ ShR w' N p q F win que g last P2 vo vw LO LW ∧ Keep F w w' := by
  obtain ⟨he, hA, hK⟩ := hp
  have hs := hK.size
  have hb : ∀ k, k < w.heap.size → k ≠ q → w'.heap[k]? = w.heap[k]? := fun k hk hn => hK.block k hk hn
  refine ⟨he, ⟨h.c.keep hK h.ne, hA, own_carry h.oo (fun k hk => hb k (h.oo.lt k hk).2 (fun e => h.op.2 (e ▸ hk))), own_carry h.ow (fun k hk => hb k (h.ow.lt k hk).2 (fun e => h.wp.2 (e ▸ hk))),
    fun b hb' => (h.bo b hb').carry hs (fun k hk hA => hb k hk hA.2.2.1), h.ne, h.op, h.wp, h.ap, h.inp, h.inq, h.ino, h.inw, fun k hk => ⟨(h.low k hk).1, Nat.lt_of_lt_of_le (h.low k hk).2 hs⟩⟩, hK.mono (fun k e => e ▸ h.inq)⟩
end

/-! What it does, without its memory: all that was pushed, and how many are no more. -/
structure Sh where
  win : Nat
  que : Nat
  g : Nat
  all : List ByteArray
  pa : Pa
def Sh.n (S : Sh) : Nat := min S.win (S.all.length - S.g)
def Sh.last (S : Sh) : Nat := S.g + S.n
def Sh.out (S : Sh) : List ByteArray := (S.all.drop S.g).take S.n
def Sh.waits (S : Sh) : List ByteArray := S.all.drop (S.g + S.n)
def Sh.room (S : Sh) (r : Bool) : Bool := decide ((S.waits.length : Int) < if r then (S.que : Int) else (S.que : Int) - 1)
def Sh.push (S : Sh) (s : ByteArray) : Sh := { S with all := S.all ++ [s], pa := S.pa.start }
def Sh.acks (S : Sh) (n : Nat) : Bool := decide (S.g < n ∧ n ≤ S.last)
def Sh.ack (S : Sh) (n : Nat) : Sh := { S with g := n, pa := if S.all.length ≤ n then S.pa.stop else S.pa.stop.start }
def Sh.tick (S : Sh) : Sh := { S with pa := S.pa.tick }
/-- What goes out between two states: with numbers from S.last + 1 on. -/
def Sh.went (S T : Sh) : List ByteArray := (T.all.drop S.last).take (T.last - S.last)

def Sh.new (w q f m : Nat) : Sh := ⟨w, q, 0, [], Pa.new f m⟩
theorem new_last (w q f m : Nat) : (Sh.new w q f m).last = 0 := by
  show 0 + min w (0 - 0) = 0
  omega

structure Sh.ok (S : Sh) (n : Nat) : Prop where
  win : 1 ≤ S.win ∧ S.win ≤ 16
  que : 2 ≤ S.que ∧ S.que ≤ 32
  g : S.g ≤ S.all.length
  all : S.all.length ≤ n
  low : S.waits.length ≤ S.que
  pa : S.pa.ok n
  runs : 0 < S.pa.l ↔ S.g < S.all.length
  small : ∀ s ∈ S.all, s.size ≤ 30000

/-- It lies so. -/
def ShAt (w : World) (N p : Nat) (F : Nat → Prop) (S : Sh) : Prop :=
  ∃ q vo vw LO LW, ShR w N p q F S.win S.que S.g S.last S.pa vo vw LO LW ∧ LO.map Bd.s = S.out ∧ LW.map Bd.s = S.waits
section
variable {w w' : World} {N p n : Nat} {F G : Nat → Prop} {S : Sh}
theorem ShAt.below (h : ShAt w N p F S) (hb : Below w.heap.size w w') : ShAt w' N p F S := by
  obtain ⟨q, vo, vw, LO, LW, hR, e⟩ := h
  exact ⟨q, vo, vw, LO, LW, hR.below hb, e⟩
theorem ShAt.keep (h : ShAt w N p F S) (hk : Keep G w w') (hFG : ∀ k, F k → ¬ G k) : ShAt w' N p F S := by
  obtain ⟨q, vo, vw, LO, LW, hR, e⟩ := h
  exact ⟨q, vo, vw, LO, LW, hR.keep hk hFG, e⟩
theorem ShAt.drewN (h : ShAt w N p F S) (k : Nat) : ShAt (w.drewN k) N p F S := h.below ⟨rfl, rfl, rfl, Nat.le_refl _, fun _ _ => rfl⟩
theorem ShAt.size (h : ShAt w N p F S) : N ≤ w.heap.size ∧ p < w.heap.size ∧ ∀ k, F k → N ≤ k ∧ k < w.heap.size := by
  obtain ⟨q, vo, vw, LO, LW, hR, e⟩ := h
  exact ⟨hR.nle, (hR.low p hR.inp).2, hR.low⟩

theorem Sh.n_le (S : Sh) : S.n ≤ S.win ∧ S.n ≤ S.all.length - S.g := ⟨Nat.min_le_left _ _, Nat.min_le_right _ _⟩
theorem Sh.out_len (S : Sh) : S.out.length = S.n := by
  unfold Sh.out
  rw [List.length_take, List.length_drop]
  exact Nat.min_eq_left S.n_le.2
theorem Sh.waits_len (S : Sh) : S.waits.length = S.all.length - S.g - S.n := by
  unfold Sh.waits
  rw [List.length_drop]
  omega
theorem Sh.mem_out {s : ByteArray} (h : s ∈ S.out) : s ∈ S.all := List.mem_of_mem_drop (List.mem_of_mem_take h)
theorem Sh.mem_waits {s : ByteArray} (h : s ∈ S.waits) : s ∈ S.all := List.mem_of_mem_drop h
theorem Sh.ok.more {k : Nat} (h : S.ok n) (hk : n ≤ k) : S.ok k := ⟨h.win, h.que, h.g, Nat.le_trans h.all hk, h.low, h.pa.more hk, h.runs, h.small⟩
theorem Sh.ok.last_le (h : S.ok n) : S.last ≤ n := by
  have := S.n_le
  have := h.g
  have := h.all
  unfold Sh.last
  omega
end

end Go.Proofs.Ytfbojcaedcimcaa

/-
  What a ship's calls do that turn nothing but its alarm: Room, Left, Last, Out, Waits, Tick; New.
-/
namespace Go.Proofs.Ytfbojcaedcimcaa
open Go.RowKit

section
variable {W : World} {N p q : Nat} {F : Nat → Prop} {win que g last : Nat} {P : Pa} {vo vw : Value} {LO LW : List Bd}

theorem sh_room (h : ShR W N p q F win que g last P vo vw LO LW) (r : Bool) (hq : 2 ≤ que ∧ que ≤ 32) :
    Calls Try.prog 43 #[.pointer (some ⟨p, 0, none⟩), .bool r] W fun E w' => E = .returned (.bool (decide ((LW.length : Int) < if r then (que : Int) else (que : Int) - 1))) ∧ ∃ n, w' = W.drewN n := by
  obtain ⟨c0, c1, c2, c3, c4, c5⟩ := h.cells
  obtain ⟨aw, cw, rfl, _⟩ := own_row h.ow
  have hw : IntKind.i64.wrap ((que : Int) - 1) = (que : Int) - 1 := wrap_i (by omega)
  clear h
  cases r
  · obtain ⟨b, hb⟩ : ∃ b, decide ((LW.length : Int) < (que : Int) - 1) = b := ⟨_, rfl⟩
    have e : decide ((LW.length : Int) < if false = true then (que : Int) else (que : Int) - 1) = b := hb
    rw [e]
    clear e
    go_enter Try.func43, Try.ntmps43
    go_wp2_with fail
    go_quiet (fail)
    go_wp2_with fail
    go_ret
    exact ⟨rfl, _, rfl⟩
  · obtain ⟨b, hb⟩ : ∃ b, decide ((LW.length : Int) < (que : Int)) = b := ⟨_, rfl⟩
    have hb2 : decide (LW.length < que) = b := by rw [← hb]; exact decide_eq_decide.2 (by omega)
    have e : decide ((LW.length : Int) < if true = true then (que : Int) else (que : Int) - 1) = b := hb
    rw [e]
    clear e
    go_enter Try.func43, Try.ntmps43
    go_wp2_with fail
    go_quiet (fail)
    go_wp2_with fail
    go_ret
    exact ⟨rfl, _, rfl⟩

theorem sh_last (h : ShR W N p q F win que g last P vo vw LO LW) : Calls Try.prog 27 #[.pointer (some ⟨p, 0, none⟩)] W fun E w' => E = .returned (.int .u64 (last : Nat)) ∧ w' = W := by
  obtain ⟨c0, c1, c2, c3, c4, c5⟩ := h.cells
  clear h
  go_enter Try.func27, Try.ntmps27
  go_wp2_with fail
  go_ret
  exact ⟨rfl, rfl⟩

theorem sh_out (h : ShR W N p q F win que g last P vo vw LO LW) (hl : LO.length ≤ 1000) (hs : ∀ b ∈ LO, b.s.size ≤ 1000000) :
    Calls Try.prog 23 #[.pointer (some ⟨p, 0, none⟩)] W (CopPost W g (LO.map Bd.s)) := by
  obtain ⟨c0, c1, c2, c3, c4, c5⟩ := h.cells
  obtain ⟨ao, co, rfl, hr⟩ := own_row h.oo
  have C := Lib.hid (copied_any W (fun _ => True) g LO ao co (hr.mono (fun _ _ _ => trivial)) (fun b hb => (h.bo b (List.mem_append_left _ hb)).mono (fun _ _ _ => trivial)) hl hs)
  clear h hr
  go_enter Try.func23, Try.ntmps23
  go_wp2_with (go_at_call 44; refine C.out.mono ?_; rintro e w' ⟨a, cap, rfl, hi, hb⟩; have R := Lib.hid (show CopPost W g (LO.map Bd.s) (.returned (.slice a (LO.map Bd.s).length cap)) w' from ⟨a, cap, rfl, hi, hb⟩); clear hi hb)
  go_ret
  simpa using R.out

/-- A Tick's outcome: the alarm's, then copies of all that is out, or nothing. -/
def TickPost (W : World) (N p q : Nat) (F : Nat → Prop) (win que g last : Nat) (P : Pa) (vo vw : Value) (LO LW : List Bd) (E : Ending) (w' : World) : Prop :=
  ∃ a cap w1, ShR w1 N p q F win que g last P.tick vo vw LO LW ∧ Keep F W w1 ∧ E = .returned (.slice a (if P.rings then LO.length else 0) cap) ∧ Below w1.heap.size w1 w' ∧
    ItR (fun k => w1.heap.size ≤ k) w' (.slice a (if P.rings then LO.length else 0) cap) g (if P.rings then LO.map Bd.s else [])

theorem sh_tick {n : Nat} (h : ShR W N p q F win que g last P vo vw LO LW) (hl : LO.length ≤ 1000) (hs : ∀ b ∈ LO, b.s.size ≤ 1000000) (ho : P.ok n) (hn : n ≤ 4611686018427387904) :
    Calls Try.prog 28 #[.pointer (some ⟨p, 0, none⟩)] W (TickPost W N p q F win que g last P vo vw LO LW) := by
  obtain ⟨c0, c1, c2, c3, c4, c5⟩ := h.cells
  have H := Lib.hid h
  have T := Lib.hid (pa_tick h.pa ho hn)
  have S := Lib.hid hs
  clear h hs
  go_enter Try.func28, Try.ntmps28
  cases hb : P.rings
  · have X := Lib.hid hb
    rw [hb] at T
    clear hb
    go_wp2_with (go_at_call 47; refine T.out.mono ?_; intro e w' hp; obtain ⟨rfl, h1, hk⟩ := H.out.alarm hp; have R := Lib.hid h1; have K := Lib.hid hk; clear h1 hk hp)
    go_ret
    refine ⟨none, 0, _, R.out, K.out, by rw [X.out]; rfl, Below.refl _ _, ?_⟩
    rw [X.out]
    exact ⟨none, 0, [], rfl, rfl, RowV.none _ _ _, fun b hb => by cases hb⟩
  · have X := Lib.hid hb
    rw [hb] at T
    clear hb
    go_wp2_with (first
      | (go_at_call 47; refine T.out.mono ?_; intro e w' hp; obtain ⟨rfl, h1, hk⟩ := H.out.alarm hp; have R := Lib.hid h1; have K := Lib.hid hk; clear h1 hk hp)
      | (go_at_call 23; refine (sh_out R.out hl S.out).mono ?_; rintro e w2 ⟨a, cap, rfl, hi, hb2⟩; have I := Lib.hid hi; have B := Lib.hid hb2; clear hi hb2))
    go_ret
    refine ⟨a, cap, _, R.out, K.out, by rw [X.out]; simp, B.out, ?_⟩
    rw [X.out]
    simpa using I.out
end

/-- What waits, in new memory. -/
def WtR (A : Nat → Prop) (w : World) (v : Value) (ss : List ByteArray) : Prop :=
  ∃ (a : Option Addr) (cap : Nat) (L : List Bd), v = .slice a L.length cap ∧ L.map Bd.s = ss ∧ RowV A w a cap L.length 1 (L.map bdV) ∧ ∀ b ∈ L, BodyV A w b
def WtPost (W : World) (ss : List ByteArray) (E : Ending) (w' : World) : Prop :=
  ∃ a cap, E = .returned (.slice a ss.length cap) ∧ WtR (fun k => W.heap.size ≤ k) w' (.slice a ss.length cap) ss ∧ Below W.heap.size W w'
theorem WtR.below {A : Nat → Prop} {w w' : World} {v : Value} {ss : List ByteArray} (h : WtR A w v ss) (hb : Below w.heap.size w w') : WtR A w' v ss := by
  obtain ⟨a, cap, L, e, e2, hr, hB⟩ := h
  exact ⟨a, cap, L, e, e2, hr.below hb, fun b hb' => (hB b hb').below hb⟩

def WtRel (W : World) (ss : List ByteArray) (c i : Value) (wr : World) : Prop :=
  ∃ (k : Nat) (a : Option Addr) (cap : Nat) (M : List Bd), k ≤ ss.length ∧ i = .int .i64 ((k : Nat) : Int) ∧ c = .slice a k cap ∧ M.map Bd.s = ss.take k ∧ wr.ownsRow W.heap.size 30 1 c k (M.map bdV) ∧
    (∀ b ∈ M, BodyV (fun j => W.heap.size ≤ j ∧ (Value.slice a k cap).ownBlock ≠ some j) wr b) ∧ Below W.heap.size W wr

theorem wt_done {W w' : World} {ss : List ByteArray} {a : Option Addr} {cap : Nat} {M : List Bd} (e : M.map Bd.s = ss) (hO : w'.ownsRow W.heap.size 30 1 (.slice a ss.length cap) ss.length (M.map bdV))
    (hB : ∀ b ∈ M, BodyV (fun j => W.heap.size ≤ j ∧ (Value.slice a ss.length cap).ownBlock ≠ some j) w' b) (hb : Below W.heap.size W w') : WtPost W ss (.returned (.slice a ss.length cap)) w' := by
  have hl : M.length = ss.length := by rw [← e, List.length_map]
  obtain ⟨a2, c2, e2, hr⟩ := own_row hO
  cases e2
  refine ⟨a, cap, rfl, ⟨a, cap, M, by rw [hl], e, by rw [hl]; exact hr.mono (fun k _ hk => (hO.lt k hk).1), fun b hb' => (hB b hb').mono (fun k _ hk => hk.1)⟩, hb⟩

theorem wt_step {W wr w1 w2 : World} {k : Nat} {ss : List ByteArray} {a : Option Addr} {cap g2 cap2 : Nat} {M : List Bd} {b : Bd} {o : Obj} (hk : k < ss.length) (e : M.map Bd.s = ss.take k)
    (hB : ∀ b ∈ M, BodyV (fun j => W.heap.size ≤ j ∧ (Value.slice a k cap).ownBlock ≠ some j) wr b) (hb : Below W.heap.size W wr) (hO : wr.ownsRow W.heap.size 30 1 (.slice a k cap) k (M.map bdV))
    (hbl : Below wr.heap.size wr w1) (hs : b.s = ss[k]) (hbd : BodyV (fun j => wr.heap.size ≤ j) w1 b)
    (hown : w2.ownsRow W.heap.size 30 1 (.slice (some ⟨g2, 0, none⟩) (k + 1) cap2) (k + 1) (M.map bdV ++ [.slice b.a ss[k].size b.c]))
    (hgr : (w1.alloc o).grownBy w2 (Value.slice a k cap).ownBlock) (hat : (Value.slice a k cap).ownBlock = some g2 ∨ (w1.alloc o).heap.size ≤ g2) :
    WtRel W ss (.slice (some ⟨g2, 0, none⟩) (k + 1) cap2) (.int .i64 ((k + 1 : Nat) : Int)) w2 := by
  have hsz := hbl.size
  have hW := hb.size
  have hrow : ∀ j, (Value.slice a k cap).ownBlock = some j → W.heap.size ≤ j ∧ j < wr.heap.size := hO.lt
  have hal : (w1.alloc o).heap.size = w1.heap.size + 1 := World.size_alloc ..
  have hsz2 := hgr.size
  have hB1 : Below wr.heap.size wr (w1.alloc o) := hbl.alloc hbl.size o
  have hcar : ∀ j, j < w1.heap.size → (Value.slice a k cap).ownBlock ≠ some j → w2.heap[j]? = w1.heap[j]? := fun j hj hn =>
    (hgr.block j (by omega) (fun e => hn e.symm)).trans (Below.heap_alloc _ _ _ hj)
  refine ⟨k + 1, some ⟨g2, 0, none⟩, cap2, M ++ [b], by omega, rfl, rfl, ?_, ?_, ?_, ?_⟩
  · rw [List.map_append, e, List.take_succ_eq_append_getElem hk, List.map_cons, List.map_nil, hs]
  · rw [List.map_append]
    show w2.ownsRow _ _ _ _ _ (M.map bdV ++ [bdV b])
    unfold bdV
    rw [hs]
    exact hown
  · intro c hc
    rcases List.mem_append.1 hc with hc | hc
    · refine (((hB c hc).mono (A' := fun j => W.heap.size ≤ j ∧ (Value.slice a k cap).ownBlock ≠ some j ∧ j < wr.heap.size) (fun j hj hA => ⟨hA.1, hA.2, hj⟩)).carry (w' := w2) (by omega) (fun j hj hA => ?_)).mono (fun j hj hA => ?_)
      · exact (hcar j (by omega) hA.2.1).trans (hbl.block j hj)
      · refine ⟨hA.1, fun e2 => ?_⟩
        have e3 : g2 = j := by simpa [Value.ownBlock] using e2
        rcases hat with h | h
        · exact hA.2.1 (by rw [h, e3])
        · have := hA.2.2
          omega
    · obtain rfl := List.mem_singleton.1 hc
      refine ((hbd.mono (A' := fun j => wr.heap.size ≤ j ∧ j < w1.heap.size) (fun j hj hA => ⟨hA, hj⟩)).carry (w' := w2) (by omega) (fun j hj hA => hcar j hj (fun e2 => by have := hrow j e2; omega))).mono (fun j hj hA => ?_)
      have := hA.1
      refine ⟨by omega, fun e2 => ?_⟩
      have e3 : g2 = j := by simpa [Value.ownBlock] using e2
      rcases hat with h | h
      · have := hrow g2 h
        omega
      · have := hA.2
        omega
  · refine (hb.trans (hB1.mono hW)).grown hgr (by omega) (fun j h => (hrow j h).1)

set_option maxRecDepth 20000 in
set_option maxHeartbeats 4000000 in
theorem sh_waits {W : World} {N p q : Nat} {F : Nat → Prop} {win que g last : Nat} {P : Pa} {vo vw : Value} {LO LW : List Bd} (h : ShR W N p q F win que g last P vo vw LO LW) (hl : LW.length ≤ 1000) (hs : ∀ b ∈ LW, b.s.size ≤ 1000000) :
    Calls Try.prog 24 #[.pointer (some ⟨p, 0, none⟩)] W (WtPost W (LW.map Bd.s)) := by
  obtain ⟨i0, hi0, hz0, hz1, hz2⟩ := info_g Try.infoBs
  obtain ⟨c0, c1, c2, c3, c4, c5⟩ := h.cells
  obtain ⟨ao, cap, rfl, hr⟩ := own_row h.ow
  have R := Lib.hid hr
  have B := Lib.hid (fun b hb => h.bo b (List.mem_append_right _ hb))
  have S := Lib.hid hs
  clear h hr hs
  go_enter Try.func24, Try.ntmps24
  go_wp2_with fail
  go_loopw [3, 11] (fun c i wr => WtRel W (LW.map Bd.s) c i wr) (fun _ i _ => LW.length - (intOf i).toNat)
  case atStart => exact ⟨0, none, 0, [], Nat.zero_le _, rfl, rfl, rfl, World.ownsRow_nil .., (fun b h => by cases h), Below.refl _ _⟩
  case round =>
    obtain ⟨k, a, c, M, hk, rfl, rfl, e, hO, hM, hb⟩ := hrel
    by_cases hlt : k < LW.length
    · obtain ⟨bk, off, rfl, hbW, _, k0⟩ := R.out.cell k (bdV LW[k]) (by rw [List.getElem?_map, List.getElem?_eq_getElem hlt]; rfl)
      have y0 : wr.cell? ⟨bk, off + k, none⟩ = some (.slice LW[k].a LW[k].s.size LW[k].c) := (hb.cell (p := ⟨bk, off + k, none⟩) hbW).trans k0
      have HB := Lib.hid hb
      have BK := Lib.hid ((B.out LW[k] (List.getElem_mem _)).below hb)
      have SK := Lib.hid (S.out LW[k] (List.getElem_mem _))
      have E := Lib.hid e
      have O := Lib.hid hO
      have HM := Lib.hid hM
      have kb : (k : Int) < (LW.length : Int) := by omega
      have k0' : (0 : Int) ≤ (k : Int) := by omega
      clear hb e hO hM k0
      go_wp2_with (first
        | (go_at_call 41; refine (bclone_any wr _ LW[k] BK.out (Nat.le_trans SK.out (by decide))).mono ?_
           rintro e w1 ⟨b, hs1, rfl, hbd, hb1⟩
           have HS1 := Lib.hid hs1
           have C1 := Lib.hid hb1
           have O1 := Lib.hid (own_below O.out hb1)
           have B1 := Lib.hid (HB.out.trans (hb1.mono HB.out.size))
           have BD := Lib.hid hbd
           clear hs1 hbd hb1)
        | (at_builtin; refine wpList_append_at rfl (.tmp 15) (.tmp 18) 27 rfl W.heap.size 30 i0 _ 1 24 Try.underlying27 hi0 hz0 hz1 hz2 rfl (by decide) _ _ _ rfl (World.ownsRow.alloc O1.out _) (some ⟨w1.heap.size, 0, none⟩) 1 1 [.slice b.a LW[k].s.size b.c] rfl rfl (fun e => by cases e) (fun ad e => by cases e; exact World.news_of_block (heap_alloc_new _ _)) (by simp [Value.oneCell']) (by unfold maxLen; omega) (by omega) (by have := B1.out.size; simp; omega) ?_
           intro v2 w2 hown2 hgr2 hat2
           obtain ⟨g2, cap2, rfl, _⟩ := hown2.form (by omega)
           have R2 := Lib.hid (wt_step (ss := LW.map Bd.s) (by simpa using hlt) E.out HM.out HB.out O.out C1.out (by simpa using HS1.out) BD.out (by simpa using hown2) hgr2 (hat2 g2 rfl))
           clear hown2 hgr2 hat2))
      go_roundw
      case rel => exact R2.out
      case measure => simp only [intOf]; omega
    · obtain rfl : k = LW.length := by simp at hk; omega
      have dk : decide ((LW.length : Int) < (LW.length : Int)) = false := decide_eq_false (by omega)
      have P := Lib.hid (wt_done (ss := LW.map Bd.s) (a := a) (cap := c) (by rw [e, ← List.length_map (f := Bd.s), List.take_length]) (by rw [List.length_map]; exact hO) (by rw [List.length_map]; exact hM) hb)
      rw [List.length_map] at P
      clear e hO hM hb
      go_wp2_with fail
      go_ret
      exact P.out

/-! A new one. -/
def ShNew (W : World) (N : Nat) (S : Sh) (E : Ending) (w' : World) : Prop :=
  ∃ p F, E = .returned (.tuple #[.pointer (some ⟨p, 0, none⟩), .int .i64 0]) ∧ ShAt w' N p F S ∧ Below W.heap.size W w' ∧ W.heap.size ≤ p

theorem sh_fresh {W w1 : World} {N w q f m : Nat} {t : TypeId} (hN : N ≤ W.heap.size) (hA : PaAt w1 W.heap.size (Pa.new f m)) (hl : W.heap.size < w1.heap.size) :
    ShAt (w1.alloc (.cells #[.int .i64 (w : Int), .int .i64 (q : Int), .slice none 0 0, .slice none 0 0, .int .u64 0, .pointer (some ⟨W.heap.size, 0, none⟩)] t)) N w1.heap.size (fun k => k = W.heap.size ∨ k = w1.heap.size) (Sh.new w q f m) := by
  have hc := (Cel.new w1 [.int .i64 (w : Int), .int .i64 (q : Int), .slice none 0 0, .slice none 0 0, .int .u64 0, .pointer (some ⟨W.heap.size, 0, none⟩)] t).conv (V2 := shC w q (.slice none 0 0) (.slice none 0 0) (Sh.new w q f m).last W.heap.size) (six rfl rfl rfl rfl (by rw [new_last]; rfl) rfl)
  refine ⟨W.heap.size, .slice none 0 0, .slice none 0 0, [], [], ⟨hc, hA.below ((Below.refl _ _).alloc (Nat.le_refl _) _), World.ownsRow_nil .., World.ownsRow_nil .., (fun b h => by cases h), by omega, by simp [Value.ownBlock], by simp [Value.ownBlock], by simp [Value.ownBlock], Or.inr rfl, Or.inl rfl, by simp [Value.ownBlock], by simp [Value.ownBlock], fun k hk => ?_⟩, by simp [Sh.out, Sh.new], by simp [Sh.waits, Sh.new]⟩
  simp
  rcases hk with hk | hk <;> omega

theorem sh_new (W : World) (N w q f m : Nat) (hN : N ≤ W.heap.size) (hw : 1 ≤ w ∧ w ≤ 16) (hq : 2 ≤ q ∧ q ≤ 32) (hf : 1 ≤ f ∧ f ≤ m ∧ m ≤ 1000) :
    Calls Try.prog 15 #[.int .i64 (w : Int), .int .i64 (q : Int), .int .i64 (f : Int), .int .i64 (m : Int)] W (ShNew W N (Sh.new w q f m)) := by
  have HN := Lib.hid hN
  have HF := Lib.hid hf
  have d1 : decide ((w : Int) < 1) = false := decide_eq_false (by omega)
  have d2 : decide ((w : Int) > 16) = false := decide_eq_false (by omega)
  have d3 : decide ((q : Int) < 2) = false := decide_eq_false (by omega)
  have d4 : decide ((q : Int) > 32) = false := decide_eq_false (by omega)
  clear hw hq hf hN
  go_enter Try.func15, Try.ntmps15
  go_wp2_with (go_at_call 29; refine (pa_new f m W HF.out).mono ?_; rintro e w1 ⟨rfl, hA, hb, hl⟩
               have R := Lib.hid (sh_fresh (w := w) (q := q) (t := 70) HN.out hA hl); have B := Lib.hid hb; have L := Lib.hid hl; clear hA hb hl)
  go_ret2
  exact ⟨_, _, rfl, R.out, B.out.alloc B.out.size _, Nat.le_of_lt L.out⟩

theorem sh_new_no (W : World) (w q f m : Int) (h : ¬ ((1 ≤ w ∧ w ≤ 16) ∧ (2 ≤ q ∧ q ≤ 32) ∧ 1 ≤ f ∧ f ≤ m ∧ m ≤ 1000)) :
    Calls Try.prog 15 #[.int .i64 w, .int .i64 q, .int .i64 f, .int .i64 m] W fun E w' => E = .returned (.tuple #[.pointer none, .int .i64 1]) ∧ w' = W := by
  go_enter Try.func15, Try.ntmps15
  by_cases h1 : w < 1
  · have d1 : decide (w < 1) = true := decide_eq_true h1
    clear h h1
    go_wp2_with fail
    go_ret2
    exact ⟨rfl, rfl⟩
  · have d1 : decide (w < 1) = false := decide_eq_false h1
    by_cases h2 : w > 16
    · have d2 : decide (w > 16) = true := decide_eq_true h2
      clear h h1 h2
      go_wp2_with fail
      go_ret2
      exact ⟨rfl, rfl⟩
    · have d2 : decide (w > 16) = false := decide_eq_false h2
      by_cases h3 : q < 2
      · have d3 : decide (q < 2) = true := decide_eq_true h3
        clear h h1 h2 h3
        go_wp2_with fail
        go_ret2
        exact ⟨rfl, rfl⟩
      · have d3 : decide (q < 2) = false := decide_eq_false h3
        by_cases h4 : q > 32
        · have d4 : decide (q > 32) = true := decide_eq_true h4
          clear h h1 h2 h3 h4
          go_wp2_with fail
          go_ret2
          exact ⟨rfl, rfl⟩
        · have d4 : decide (q > 32) = false := decide_eq_false h4
          have X := Lib.hid (pa_new_no f m W (by omega))
          clear h h1 h2 h3 h4
          go_wp2_with (go_at_call 29; refine X.out.mono ?_; rintro e w1 ⟨rfl, rfl⟩)
          go_ret2
          exact ⟨rfl, rfl⟩

end Go.Proofs.Ytfbojcaedcimcaa
