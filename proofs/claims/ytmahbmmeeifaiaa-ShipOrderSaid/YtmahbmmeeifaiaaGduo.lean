/-
  Both ships apart, an act beside them, and what the program's gave.
-/
import Derived.Test.YtmahbmmeeifaiaaGaw
namespace Go.Proofs.Ytmahbmmeeifaiaa
open Go.RowKit

/-- One act. -/
structure Sa where
  op : Int
  n : Nat
  b : ByteArray
  r : Bool
def saC (x : Sa) : Array Value := #[.int .i64 x.op, .int .u64 (x.n : Int), .string x.b, .bool x.r]

/-- A slice of acts. -/
structure SaAt (w : World) (a : Option Addr) (cap : Nat) (l : List Sa) : Prop where
  fit : l.length ≤ cap
  max : cap ≤ maxLen
  nil : a = none → cap = 0
  ok : ∀ x ∈ l, x.n < 18446744073709551616
  cell : ∀ i (h : i < l.length), ∃ b off, a = some ⟨b, off, none⟩ ∧ b < w.heap.size ∧ w.cell? ⟨b, off + i * 4, none⟩ = some (.int .i64 l[i].op) ∧ w.cell? ⟨b, off + i * 4 + 1, none⟩ = some (.int .u64 (l[i].n : Int)) ∧
    w.cell? ⟨b, off + i * 4 + 2, none⟩ = some (.string l[i].b) ∧ w.cell? ⟨b, off + i * 4 + 3, none⟩ = some (.bool l[i].r)

/-- Both, of one state, apart; all below N as it was. -/
def DuoS (W : World) (N p r : Nat) (S : Sh) (w : World) : Prop := ∃ F X, ShAt w N p F S ∧ ReAt w N r X S ∧ (∀ k, F k → X k) ∧ Below N W w

/-- Both, an act in a block of its own, and items that the program's gave. -/
def DuoX (W : World) (N p r b : Nat) (x : Sa) (S T : Sh) (L : List Its) (w : World) : Prop :=
  ∃ F X, ShAt w N p F S ∧ ReAt w N r X T ∧ (∀ k, F k → X k) ∧ Below N W w ∧ (X b ∧ ¬ F b) ∧
    (w.cell? ⟨b, 0, none⟩ = some (.int .i64 x.op) ∧ w.cell? ⟨b, 1, none⟩ = some (.int .u64 (x.n : Int)) ∧ w.cell? ⟨b, 2, none⟩ = some (.string x.b) ∧ w.cell? ⟨b, 3, none⟩ = some (.bool x.r)) ∧
    (∀ it ∈ L, ItR (fun k => X k ∧ ¬ F k) w it.v it.g it.ss) ∧ ∀ k, X k → k < w.heap.size

theorem ReAt.xs {w : World} {N p : Nat} {X : Nat → Prop} {S : Sh} (h : ReAt w N p X S) : ∀ k, X k → k < w.heap.size := by
  obtain ⟨q, ao, co, aw, cw, hR⟩ := h
  exact hR.xs
theorem ReAt.ge {w : World} {N p : Nat} {X : Nat → Prop} {S : Sh} (h : ReAt w N p X S) : N ≤ p := by
  obtain ⟨q, ao, co, aw, cw, hR⟩ := h
  exact hR.low.1

section
variable {W w w' : World} {N p r b n : Nat} {x : Sa} {S T S1 T1 : Sh} {L : List Its}

theorem DuoS.be (h : DuoS W N p r S w) : Below N W w := h.elim fun _ h => h.elim fun _ h => h.2.2.2
theorem DuoS.below (h : DuoS W N p r S w) (hb : Below w.heap.size w w') : DuoS W N p r S w' := by
  obtain ⟨F, X, hA, hB, hap, hbe⟩ := h
  exact ⟨F, X, hA.below hb, hB.below hb, hap, hbe.trans (hb.mono hA.size.1)⟩
theorem DuoS.drewN (h : DuoS W N p r S w) (q : Nat) : DuoS W N p r S (w.drewN q) := h.below ⟨rfl, rfl, rfl, Nat.le_refl _, fun _ _ => rfl⟩
theorem DuoX.be (h : DuoX W N p r b x S T L w) : Below N W w := h.elim fun _ h => h.elim fun _ h => h.2.2.2.1
theorem DuoX.below (h : DuoX W N p r b x S T L w) (hb : Below w.heap.size w w') : DuoX W N p r b x S T L w' := by
  obtain ⟨F, X, hA, hB, hap, hbe, hbb, ⟨c0, c1, c2, c3⟩, hI, hX⟩ := h
  exact ⟨F, X, hA.below hb, hB.below hb, hap, hbe.trans (hb.mono hA.size.1), hbb, ⟨cell_go c0 hb, cell_go c1 hb, cell_go c2 hb, cell_go c3 hb⟩, fun it h => (hI it h).below hb, fun k hk => Nat.lt_of_lt_of_le (hX k hk) hb.size⟩
theorem DuoX.drewN (h : DuoX W N p r b x S T L w) (q : Nat) : DuoX W N p r b x S T L (w.drewN q) := h.below ⟨rfl, rfl, rfl, Nat.le_refl _, fun _ _ => rfl⟩
theorem DuoX.drew (h : DuoX W N p r b x S T L w) : DuoX W N p r b x S T L w.drew := h.below (drew_below w)
theorem DuoX.cells (h : DuoX W N p r b x S T L w) : w.cell? ⟨b, 0, none⟩ = some (.int .i64 x.op) ∧ w.cell? ⟨b, 1, none⟩ = some (.int .u64 (x.n : Int)) ∧ w.cell? ⟨b, 2, none⟩ = some (.string x.b) ∧ w.cell? ⟨b, 3, none⟩ = some (.bool x.r) := by
  obtain ⟨F, X, _, _, _, _, _, h, _⟩ := h
  exact h
theorem DuoX.two (h : DuoX W N p r b x S S L w) : DuoS W N p r S w := by
  obtain ⟨F, X, hA, hB, hap, hbe, _⟩ := h
  exact ⟨F, X, hA, hB, hap, hbe⟩
theorem DuoX.none (h : DuoX W N p r b x S T L w) : DuoX W N p r b x S T [] w := by
  obtain ⟨F, X, hA, hB, hap, hbe, hbb, hc, _, hX⟩ := h
  exact ⟨F, X, hA, hB, hap, hbe, hbb, hc, (fun _ h => by cases h), hX⟩
theorem DuoX.it (h : DuoX W N p r b x S T L w) {y : Its} (hy : y ∈ L) : ItR (fun _ => True) w y.v y.g y.ss := by
  obtain ⟨F, X, _, _, _, _, _, _, hI, _⟩ := h
  exact (hI y hy).mono (fun _ _ _ => trivial)

/-- An act comes beside them. -/
theorem DuoS.act (h : DuoS W N p r S w) (x : Sa) (t : TypeId) : DuoX W N p r w.heap.size x S S [] (w.alloc (.cells (saC x) t)) := by
  obtain ⟨F, X, hA, hB, hap, hbe⟩ := h
  have hb : Below w.heap.size w (w.alloc (.cells (saC x) t)) := (Below.refl _ _).alloc (Nat.le_refl _) _
  have hx := hB.xs
  have hs : (w.alloc (.cells (saC x) t)).heap.size = w.heap.size + 1 := World.size_alloc ..
  refine ⟨F, fun k => X k ∨ k = w.heap.size, hA.below hb, hB.carry hb.size (fun k hk _ => hb.block k hk) (fun k f => f.imp id (fun e => Nat.le_of_eq e.symm)) (fun k f => ?_), fun k f => Or.inl (hap k f), hbe.trans (hb.mono hA.size.1), ⟨Or.inr rfl, fun f => ?_⟩, ⟨by simp [saC], by simp [saC], by simp [saC], by simp [saC]⟩, (fun _ h => by cases h), fun k f => ?_⟩
  · rcases f with f | f
    · have := hx k f
      omega
    · omega
  · have := (hA.size.2.2 _ f).2
    omega
  · rcases f with f | f
    · have := hx k f
      omega
    · omega

/-- A call on the program's. -/
theorem duox_left {f : FuncId} {args : Array Value} {R : Value → Value} {g : Nat} {ss : List ByteArray} (h : DuoX W N p r b x S T L w) (hc : ∀ F, ShAt w N p F S → Calls Try.prog f args w (OpPost w N p F S1 R g ss)) :
    Calls Try.prog f args w fun E w' => ∃ a cap, E = .returned (R (.slice a ss.length cap)) ∧ DuoX W N p r b x S1 T (⟨.slice a ss.length cap, g, ss⟩ :: L) w' := by
  obtain ⟨F, X, hA, hB, hap, hbe, ⟨hb1, hb2⟩, ⟨c0, c1, c2, c3⟩, hI, hX⟩ := h
  refine (hc F hA).mono ?_
  rintro E w' ⟨F', a, cap, he, hA', hK, hF, hi⟩
  have hs := hA.size
  have hs' := hA'.size
  have hbs := hX b hb1
  have hcell : ∀ i, w'.cell? ⟨b, i, Option.none⟩ = w.cell? ⟨b, i, Option.none⟩ := fun i => hK.cell (p := ⟨b, i, Option.none⟩) hbs hb2
  refine ⟨a, cap, he, F', fun k => X k ∨ (w.heap.size ≤ k ∧ k < w'.heap.size), hA', hB.carry hK.size (fun k hk hn => hK.block k hk (fun f => hn (hap k f))) (fun k f => f.imp id (fun l => l.1)) (fun k f => ?_), fun k f => ?_, hbe.trans (hK.below hs.1 (fun k f => (hs.2.2 k f).1)), ⟨Or.inl hb1, fun f => ?_⟩, ⟨(hcell 0).trans c0, (hcell 1).trans c1, (hcell 2).trans c2, (hcell 3).trans c3⟩, fun it h => ?_, fun k f => ?_⟩
  · have := hK.size
    rcases f with f | f
    · have := hX k f
      omega
    · exact f.2
  · exact (hF k f).imp (hap k) (fun l => ⟨l, (hs'.2.2 k f).2⟩)
  · rcases hF b f with f | f
    · exact hb2 f
    · omega
  · rcases List.mem_cons.1 h with rfl | h
    · exact hi.mono (fun k hk hA => ⟨Or.inr ⟨hA.1, hk⟩, hA.2⟩)
    · exact (((hI it h).mono (A' := fun k => (X k ∧ ¬ F k) ∧ k < w.heap.size) (fun k hk hn => ⟨hn, hk⟩)).carry hK.size (fun k hk hn => hK.block k hk hn.1.2)).mono (fun k _ hn => ⟨Or.inl hn.1.1, fun f => (hF k f).elim hn.1.2 (fun l => by have := hn.2; omega)⟩)
  · have := hK.size
    rcases f with f | f
    · have := hX k f
      omega
    · exact f.2
/-- A call on the document's. -/
theorem duox_right {f : FuncId} {args : Array Value} {R : Value → Value} {g : Nat} {ss : List ByteArray} (h : DuoX W N p r b x S T L w) (hc : ∀ X, ReAt w N r X T → Calls Try.prog f args w (RePost w N r X T1 R g ss)) :
    Calls Try.prog f args w fun E w' => ∃ a cap, E = .returned (R (.slice a ss.length cap)) ∧ DuoX W N p r b x S T1 L w' ∧ RtR (fun _ => True) w' (.slice a ss.length cap) g ss := by
  obtain ⟨F, X, hA, hB, hap, hbe, ⟨hb1, hb2⟩, ⟨c0, c1, c2, c3⟩, hI, hX⟩ := h
  refine (hc X hB).mono ?_
  rintro E w' ⟨a, cap, he, hB', hK, hi⟩
  have hs := hA.size
  have hbs := hX b hb1
  have hcell : ∀ i, w'.cell? ⟨b, i, Option.none⟩ = w.cell? ⟨b, i, Option.none⟩ := fun i => hK.cell (p := ⟨b, i, Option.none⟩) hbs (fun f => f.2 hb1)
  exact ⟨a, cap, he, ⟨F, X, hA.keep hK (fun k f g => g.2 (hap k f)), hB', hap, hbe.trans (hK.below hs.1 (fun k f => f.1)), ⟨hb1, hb2⟩, ⟨(hcell 0).trans c0, (hcell 1).trans c1, (hcell 2).trans c2, (hcell 3).trans c3⟩, fun it h => (hI it h).carry hK.size (fun k hk hn => hK.block k hk (fun f => f.2 hn.1)), fun k f => Nat.lt_of_lt_of_le (hX k f) hK.size⟩, hi.mono (fun _ _ _ => trivial)⟩

theorem re_push_any {X : Nat → Prop} {s : ByteArray} {rr : Bool} (h : ReAt w N r X S) (ho : S.ok n) (hn : n ≤ 500) :
    Calls Try.prog 20 #[.pointer (some ⟨r, 0, Option.none⟩), .string s, .bool rr] w (RePost w N r X (S.pushed rr s) (fun v => .tuple #[v, .bool (S.room rr)]) S.last (S.pushI rr s)) := by
  unfold Sh.pushed Sh.pushI
  cases hr : S.room rr
  · exact re_push_no h ho hr
  · exact re_push_ok h ho hn hr
theorem re_ack_any {X : Nat → Prop} {k : Nat} (h : ReAt w N r X S) (ho : S.ok n) (hn : n ≤ 500) :
    Calls Try.prog 21 #[.pointer (some ⟨r, 0, Option.none⟩), .int .u64 (k : Int)] w (RePost w N r X (S.acked k) (fun v => v) S.last (S.ackI k)) := by
  unfold Sh.acked Sh.ackI
  cases hr : S.acks k
  · exact re_ack_no h hr
  · exact re_ack_ok h ho hn hr

theorem duox_room {rr : Bool} (h : DuoX W N p r b x S T L w) (ho : S.ok n) : Calls Try.prog 17 #[.pointer (some ⟨p, 0, Option.none⟩), .bool rr] w fun E w' => E = .returned (.bool (S.room rr)) ∧ ∃ n, w' = w.drewN n := by
  obtain ⟨F, X, hA, _⟩ := h
  exact room_any hA ho rr
theorem duox_room2 {rr : Bool} (h : DuoX W N p r b x S T L w) (ho : T.ok n) : Calls Try.prog 19 #[.pointer (some ⟨r, 0, Option.none⟩), .bool rr] w fun E w' => E = .returned (.bool (T.room rr)) ∧ ∃ n, w' = w.drewN n := by
  obtain ⟨F, X, _, ⟨q, ao, co, aw, cw, hR⟩, _⟩ := h
  exact re_room hR rr ho.que
theorem duox_push {A : Nat → Prop} {s : ByteArray} {a : Option Addr} {c : Nat} {rr bb : Bool} (h : DuoX W N p r b x S T L w) (ho : S.ok n) (hn : n ≤ 500) (hb : BodyV A w ⟨a, c, s⟩) (hs : s.size ≤ 1000) (hbb : S.room rr = bb) :
    Calls Try.prog 10 #[.pointer (some ⟨p, 0, Option.none⟩), .slice a s.size c, .bool rr] w fun E w' => ∃ a cap, E = .returned (.tuple #[.slice a (S.pushI rr s).length cap, .bool bb]) ∧ DuoX W N p r b x (S.pushed rr s) T (⟨.slice a (S.pushI rr s).length cap, S.last, S.pushI rr s⟩ :: L) w' := by
  subst hbb
  exact duox_left h (fun _ hA => push_any (b := ⟨a, c, s⟩) hA ho hn hb hs)
theorem duox_push2 {s : ByteArray} {rr bb : Bool} (h : DuoX W N p r b x S T L w) (ho : T.ok n) (hn : n ≤ 500) (hbb : T.room rr = bb) :
    Calls Try.prog 20 #[.pointer (some ⟨r, 0, Option.none⟩), .string s, .bool rr] w fun E w' => ∃ a cap, E = .returned (.tuple #[.slice a (T.pushI rr s).length cap, .bool bb]) ∧ DuoX W N p r b x S (T.pushed rr s) L w' ∧ RtR (fun _ => True) w' (.slice a (T.pushI rr s).length cap) T.last (T.pushI rr s) := by
  subst hbb
  exact duox_right h (fun _ hB => re_push_any hB ho hn)
theorem duox_ack {k : Nat} (h : DuoX W N p r b x S T L w) (ho : S.ok n) (hn : n ≤ 500) :
    Calls Try.prog 11 #[.pointer (some ⟨p, 0, Option.none⟩), .int .u64 (k : Int)] w fun E w' => ∃ a cap, E = .returned (.slice a (S.ackI k).length cap) ∧ DuoX W N p r b x (S.acked k) T (⟨.slice a (S.ackI k).length cap, S.last, S.ackI k⟩ :: L) w' :=
  duox_left h (fun _ hA => ack_any hA ho hn)
theorem duox_ack2 {k : Nat} (h : DuoX W N p r b x S T L w) (ho : T.ok n) (hn : n ≤ 500) :
    Calls Try.prog 21 #[.pointer (some ⟨r, 0, Option.none⟩), .int .u64 (k : Int)] w fun E w' => ∃ a cap, E = .returned (.slice a (T.ackI k).length cap) ∧ DuoX W N p r b x S (T.acked k) L w' ∧ RtR (fun _ => True) w' (.slice a (T.ackI k).length cap) T.last (T.ackI k) :=
  duox_right h (fun _ hB => re_ack_any hB ho hn)
theorem duox_tick (h : DuoX W N p r b x S T L w) (ho : S.ok n) (hn : n ≤ 500) :
    Calls Try.prog 12 #[.pointer (some ⟨p, 0, Option.none⟩)] w fun E w' => ∃ a cap, E = .returned (.slice a S.tickI.length cap) ∧ DuoX W N p r b x S.tick T (⟨.slice a S.tickI.length cap, S.g, S.tickI⟩ :: L) w' :=
  duox_left h (fun _ hA => tick_any hA ho hn)
theorem duox_tick2 (h : DuoX W N p r b x S T L w) (ho : T.ok n) (hn : n ≤ 500) :
    Calls Try.prog 22 #[.pointer (some ⟨r, 0, Option.none⟩)] w fun E w' => ∃ a cap, E = .returned (.slice a T.tickI.length cap) ∧ DuoX W N p r b x S T.tick L w' ∧ RtR (fun _ => True) w' (.slice a T.tickI.length cap) T.g T.tickI :=
  duox_right h (fun _ hB => re_tick hB ho hn)
theorem duox_items {a1 a2 : Option Addr} {k c1 c2 g : Nat} {ss : List ByteArray} (h : DuoX W N p r b x S T (⟨.slice a1 k c1, g, ss⟩ :: L) w) (h2 : RtR (fun _ => True) w (.slice a2 k c2) g ss) :
    Calls Try.prog 14 #[.slice a1 k c1, .slice a2 k c2] w fun E w' => E = .returned (.bool true) ∧ ∃ q, w' = w.drewN q :=
  it_is (h.it (y := ⟨.slice a1 k c1, g, ss⟩) (List.mem_cons_self ..)) h2

/-! Calls that turn neither. -/
theorem DuoS.sh (h : DuoS W N p r S w) : ∃ F, ShAt w N p F S := h.elim fun F h => h.elim fun _ h => ⟨F, h.1⟩
theorem DuoS.re (h : DuoS W N p r S w) : ∃ q ao co aw cw X, ReR w N r q X S.win S.que S.g S.last S.pa ao co S.out aw cw S.waits := by
  obtain ⟨F, X, _, ⟨q, ao, co, aw, cw, hR⟩, _⟩ := h
  exact ⟨q, ao, co, aw, cw, X, hR⟩
end

end Go.Proofs.Ytmahbmmeeifaiaa
