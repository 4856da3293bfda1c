/-
  Any call on a ship; what holds of it always; a ship made by the call itself, and what it gave.
-/
import Derived.Test.YtmahbmmeeifaiaaGops
namespace Go.Proofs.Ytmahbmmeeifaiaa
open Go.RowKit

/-- What a Push, an Ack does, and what goes out. -/
def Sh.pushed (S : Sh) (r : Bool) (s : ByteArray) : Sh := if S.room r then S.push s else S
def Sh.pushI (S : Sh) (r : Bool) (s : ByteArray) : List ByteArray := if S.room r then S.went (S.push s) else []
def Sh.acked (S : Sh) (k : Nat) : Sh := if S.acks k then S.ack k else S
def Sh.ackI (S : Sh) (k : Nat) : List ByteArray := if S.acks k then S.went (S.ack k) else []
def Sh.tickI (S : Sh) : List ByteArray := if S.pa.rings then S.out else []

section
variable {S : Sh} {n : Nat}
theorem Sh.ok.push {s : ByteArray} {r : Bool} (h : S.ok n) (hr : S.room r = true) (hs : s.size ≤ 1000) : (S.push s).ok (n + 1) := by
  have hr2 := of_decide_eq_true (show decide ((S.waits.length : Int) < if r then (S.que : Int) else (S.que : Int) - 1) = true from hr)
  have hr3 : S.waits.length + 1 ≤ S.que := by
    have := h.que
    cases r
    · simp at hr2; omega
    · simp at hr2; omega
  have hal : (S.push s).all.length = S.all.length + 1 := by show (S.all ++ [s]).length = _; simp
  have hg := h.g
  have hpa := h.pa
  refine ⟨h.win, h.que, by show S.g ≤ _; omega, by have := h.all; omega, ?_, h.pa.start.more (by omega), ?_, fun x hx => ?_⟩
  · have h1 := (S.push s).waits_len
    have h2 := S.waits_len
    have h3 : (S.push s).n = min S.win ((S.push s).all.length - S.g) := rfl
    have h4 : S.n = min S.win (S.all.length - S.g) := rfl
    have h5 : (S.push s).g = S.g := rfl
    show (S.push s).waits.length ≤ S.que
    rw [hal] at h1 h3
    omega
  · show 0 < S.pa.start.l ↔ S.g < (S.push s).all.length
    rw [hal]
    refine ⟨fun _ => by omega, fun _ => ?_⟩
    have := hpa.f
    unfold Pa.start
    split
    · show 0 < S.pa.s
      omega
    · omega
  · rcases List.mem_append.1 (show x ∈ S.all ++ [s] from hx) with hx | hx
    · exact h.small x hx
    · rw [List.mem_singleton.1 hx]; exact hs
theorem Sh.ok.ack {k : Nat} (h : S.ok n) (hk : S.acks k = true) : (S.ack k).ok n := by
  obtain ⟨h1, h2⟩ := Sh.acks_spec.1 hk
  have h3 : S.last = S.g + S.n := rfl
  have h4 := S.n_le
  have hg := h.g
  refine ⟨h.win, h.que, by show k ≤ S.all.length; omega, h.all, ?_, ?_, ?_, h.small⟩
  · have e1 := (S.ack k).waits_len
    have e2 := S.waits_len
    have e3 : (S.ack k).n = min S.win (S.all.length - k) := rfl
    have e4 : S.n = min S.win (S.all.length - S.g) := rfl
    have e5 : (S.ack k).g = k := rfl
    have e6 : (S.ack k).all = S.all := rfl
    have e7 := h.low
    show (S.ack k).waits.length ≤ S.que
    rw [e6] at e1
    omega
  · show (if S.all.length ≤ k then S.pa.stop else S.pa.stop.start).ok n
    split
    · exact h.pa.stop
    · exact h.pa.stop.start
  · show 0 < (if S.all.length ≤ k then S.pa.stop else S.pa.stop.start).l ↔ k < S.all.length
    have := h.pa.f
    split
    · refine ⟨fun f => absurd f (Nat.lt_irrefl 0), fun f => by omega⟩
    · refine ⟨fun _ => by omega, fun _ => ?_⟩
      show 0 < S.pa.f
      omega
theorem Sh.ok.tick (h : S.ok n) : S.tick.ok (n + 1) := by
  refine ⟨h.win, h.que, h.g, by show S.all.length ≤ _; have := h.all; omega, h.low, h.pa.tick, ?_, h.small⟩
  show 0 < S.pa.tick.l ↔ S.g < S.all.length
  rw [← h.runs]
  have h1 := h.pa.next
  have h2 := h.pa.f
  unfold Pa.tick
  split
  · exact Iff.rfl
  · split
    · show 0 < S.pa.next ↔ _
      omega
    · show 0 < S.pa.l - 1 ↔ _
      omega
theorem Sh.ok.pushed {s : ByteArray} {r : Bool} (h : S.ok n) (hs : s.size ≤ 1000) : (S.pushed r s).ok (n + 1) := by
  unfold Sh.pushed
  cases hr : S.room r
  · exact h.more (by omega)
  · exact h.push hr hs
theorem Sh.ok.acked {k : Nat} (h : S.ok n) : (S.acked k).ok n := by
  unfold Sh.acked
  cases hr : S.acks k
  · exact h
  · exact h.ack hr
theorem Sh.new_ok {w q f m : Nat} (hw : 1 ≤ w ∧ w ≤ 16) (hq : 2 ≤ q ∧ q ≤ 32) (hf : 1 ≤ f ∧ f ≤ m ∧ m ≤ 1000) : (Sh.new w q f m).ok 0 :=
  ⟨hw, hq, Nat.le_refl _, Nat.le_refl _, by simp [Sh.new, Sh.waits], Pa.new_ok hf, ⟨fun f => absurd f (Nat.lt_irrefl 0), fun f => absurd f (Nat.lt_irrefl 0)⟩, fun s h => by cases h⟩
end

section
variable {W : World} {N p n : Nat} {F : Nat → Prop} {S : Sh}
theorem push_any {A : Nat → Prop} {b : Bd} {r : Bool} (h : ShAt W N p F S) (ho : S.ok n) (hn : n ≤ 500) (hb : BodyV A W b) (hbs : b.s.size ≤ 1000) :
    Calls Try.prog 10 #[.pointer (some ⟨p, 0, none⟩), .slice b.a b.s.size b.c, .bool r] W (OpPost W N p F (S.pushed r b.s) (fun v => .tuple #[v, .bool (S.room r)]) S.last (S.pushI r b.s)) := by
  unfold Sh.pushed Sh.pushI
  cases hr : S.room r
  · exact push_no h ho hr
  · exact push_ok h ho hn hr hb hbs
theorem ack_any {k : Nat} (h : ShAt W N p F S) (ho : S.ok n) (hn : n ≤ 500) :
    Calls Try.prog 11 #[.pointer (some ⟨p, 0, none⟩), .int .u64 (k : Int)] W (OpPost W N p F (S.acked k) (fun v => v) S.last (S.ackI k)) := by
  unfold Sh.acked Sh.ackI
  cases hr : S.acks k
  · exact ack_no h hr
  · exact ack_ok h ho hn hr
theorem tick_any (h : ShAt W N p F S) (ho : S.ok n) (hn : n ≤ 500) :
    Calls Try.prog 12 #[.pointer (some ⟨p, 0, none⟩)] W (OpPost W N p F S.tick (fun v => v) S.g S.tickI) := by
  obtain ⟨q, vo, vw, LO, LW, hR, e1, e2⟩ := h
  have hLO : LO.length = S.n := by rw [← S.out_len, ← e1, List.length_map]
  refine (sh_tick hR (by rw [hLO]; have := S.n_le; have := ho.all; omega) (fun b hb => by
    have := ho.small b.s (Sh.mem_out (by rw [← e1]; exact List.mem_map_of_mem hb))
    omega) ho.pa (by omega)).mono ?_
  rintro E w' ⟨a, cap, w1, h1, h2, rfl, h3, h4⟩
  have hl : (if S.pa.rings = true then LO.length else 0) = S.tickI.length := by
    unfold Sh.tickI
    split
    · rw [hLO, S.out_len]
    · rfl
  have hs : (if S.pa.rings = true then LO.map Bd.s else []) = S.tickI := by unfold Sh.tickI; rw [e1]
  rw [hl] at h4 ⊢
  rw [hs] at h4
  refine ⟨F, a, cap, rfl, ⟨q, vo, vw, LO, LW, h1.below h3, e1, e2⟩, h2.trans (Keep.ofBelow (F := fun _ => False) h3) (fun _ _ f => f.elim), fun j f => Or.inl f, h4.mono (fun j _ hj => ⟨Nat.le_trans h2.size hj, fun f => ?_⟩)⟩
  have := (h1.low j f).2
  omega
theorem out_any (h : ShAt W N p F S) (ho : S.ok n) (hn : n ≤ 500) : Calls Try.prog 15 #[.pointer (some ⟨p, 0, none⟩)] W (CopPost W S.g S.out) := by
  obtain ⟨q, vo, vw, LO, LW, hR, e1, e2⟩ := h
  have hLO : LO.length = S.n := by rw [← S.out_len, ← e1, List.length_map]
  have := sh_out hR (by rw [hLO]; have := S.n_le; have := ho.all; omega) (fun b hb => by
    have := ho.small b.s (Sh.mem_out (by rw [← e1]; exact List.mem_map_of_mem hb))
    omega)
  rwa [e1] at this
theorem waits_any (h : ShAt W N p F S) (ho : S.ok n) (hn : n ≤ 500) : Calls Try.prog 16 #[.pointer (some ⟨p, 0, none⟩)] W (WtPost W S.waits) := by
  obtain ⟨q, vo, vw, LO, LW, hR, e1, e2⟩ := h
  have hLW : LW.length = S.all.length - S.g - S.n := by rw [← S.waits_len, ← e2, List.length_map]
  have := sh_waits hR (by rw [hLW]; have := ho.all; omega) (fun b hb => by
    have := ho.small b.s (Sh.mem_waits (by rw [← e2]; exact List.mem_map_of_mem hb))
    omega)
  rwa [e2] at this
theorem room_any (h : ShAt W N p F S) (ho : S.ok n) (r : Bool) : Calls Try.prog 17 #[.pointer (some ⟨p, 0, none⟩), .bool r] W fun E w' => E = .returned (.bool (S.room r)) ∧ ∃ n, w' = W.drewN n := by
  obtain ⟨q, vo, vw, LO, LW, hR, e1, e2⟩ := h
  have := sh_room hR r ho.que
  rwa [show (LW.length : Int) = (S.waits.length : Int) by rw [← e2, List.length_map], ← Sh.room_eq] at this
theorem left_any (h : ShAt W N p F S) : Calls Try.prog 13 #[.pointer (some ⟨p, 0, none⟩)] W fun E w' => E = .returned (.tuple #[.int .i64 (S.pa.l : Nat), .bool (decide (0 < S.pa.l))]) ∧ ∃ n, w' = W.drewN n := by
  obtain ⟨q, vo, vw, LO, LW, hR, _⟩ := h
  exact sh_left hR
theorem last_any (h : ShAt W N p F S) : Calls Try.prog 23 #[.pointer (some ⟨p, 0, none⟩)] W fun E w' => E = .returned (.int .u64 (S.last : Nat)) ∧ w' = W := by
  obtain ⟨q, vo, vw, LO, LW, hR, _⟩ := h
  exact sh_last hR
end

/-! One ship, made by the call; all else below N as it was; and items that it gave. -/
structure Its where
  v : Value
  g : Nat
  ss : List ByteArray
def ShOn (W : World) (N p : Nat) (S : Sh) (L : List Its) (w : World) : Prop := ∃ F, ShAt w N p F S ∧ Below N W w ∧ ∀ x ∈ L, ItR (fun k => ¬ F k) w x.v x.g x.ss

section
variable {W w w' : World} {N p n : Nat} {S T : Sh} {L : List Its}
theorem ShOn.below (h : ShOn W N p S L w) (hb : Below w.heap.size w w') : ShOn W N p S L w' := by
  obtain ⟨F, hA, hB, hI⟩ := h
  exact ⟨F, hA.below hb, hB.trans (hb.mono hA.size.1), fun x hx => (hI x hx).below hb⟩
theorem ShOn.drewN (h : ShOn W N p S L w) (q : Nat) : ShOn W N p S L (w.drewN q) := h.below ⟨rfl, rfl, rfl, Nat.le_refl _, fun _ _ => rfl⟩
theorem ShOn.be (h : ShOn W N p S L w) : Below N W w := h.elim fun _ h => h.2.1
theorem ShOn.nle (h : ShOn W N p S L w) : N ≤ w.heap.size := h.elim fun _ h => h.1.size.1
theorem ShOn.it (h : ShOn W N p S L w) {x : Its} (hx : x ∈ L) : ItR (fun _ => True) w x.v x.g x.ss := h.elim fun _ h => (h.2.2 x hx).mono (fun _ _ _ => trivial)
theorem ShOn.fewer {L' : List Its} (h : ShOn W N p S L w) (hl : ∀ x ∈ L', x ∈ L) : ShOn W N p S L' w := by
  obtain ⟨F, hA, hB, hI⟩ := h
  exact ⟨F, hA, hB, fun x hx => hI x (hl x hx)⟩
theorem ShOn.op {F : Nat → Prop} {r : Value → Value} {g : Nat} {ss : List ByteArray} {E : Ending} (hA : ShAt w N p F S) (hB : Below N W w) (hI : ∀ x ∈ L, ItR (fun k => ¬ F k) w x.v x.g x.ss) (h : OpPost w N p F T r g ss E w') :
    ∃ a cap, E = .returned (r (.slice a ss.length cap)) ∧ ShOn W N p T (⟨.slice a ss.length cap, g, ss⟩ :: L) w' := by
  obtain ⟨F', a, cap, he, hA', hK, hF, hi⟩ := h
  have hs := hA.size
  refine ⟨a, cap, he, F', hA', hB.trans (hK.below hs.1 (fun k f => (hs.2.2 k f).1)), fun x hx => ?_⟩
  rcases List.mem_cons.1 hx with rfl | hx
  · exact hi.mono (fun k _ hk => hk.2)
  · exact (((hI x hx).mono (A' := fun k => ¬ F k ∧ k < w.heap.size) (fun k hk hn => ⟨hn, hk⟩)).carry hK.size (fun k hk hn => hK.block k hk hn.1)).mono (fun k _ hn f => (hF k f).elim hn.1 (fun l => by have := hn.2; omega))

theorem so_push {A : Nat → Prop} {b : Bd} {r : Bool} (h : ShOn W N p S L w) (ho : S.ok n) (hn : n ≤ 500) (hb : BodyV A w b) (hbs : b.s.size ≤ 1000) :
    Calls Try.prog 10 #[.pointer (some ⟨p, 0, none⟩), .slice b.a b.s.size b.c, .bool r] w fun E w' => ∃ a cap, E = .returned (.tuple #[.slice a (S.pushI r b.s).length cap, .bool (S.room r)]) ∧ ShOn W N p (S.pushed r b.s) (⟨.slice a (S.pushI r b.s).length cap, S.last, S.pushI r b.s⟩ :: L) w' := by
  obtain ⟨F, hA, hB, hI⟩ := h
  exact (push_any hA ho hn hb hbs).mono fun E w' hp => ShOn.op hA hB hI hp
theorem so_ack {k : Nat} (h : ShOn W N p S L w) (ho : S.ok n) (hn : n ≤ 500) :
    Calls Try.prog 11 #[.pointer (some ⟨p, 0, none⟩), .int .u64 (k : Int)] w fun E w' => ∃ a cap, E = .returned (.slice a (S.ackI k).length cap) ∧ ShOn W N p (S.acked k) (⟨.slice a (S.ackI k).length cap, S.last, S.ackI k⟩ :: L) w' := by
  obtain ⟨F, hA, hB, hI⟩ := h
  exact (ack_any hA ho hn).mono fun E w' hp => ShOn.op hA hB hI hp
theorem so_tick (h : ShOn W N p S L w) (ho : S.ok n) (hn : n ≤ 500) :
    Calls Try.prog 12 #[.pointer (some ⟨p, 0, none⟩)] w fun E w' => ∃ a cap, E = .returned (.slice a S.tickI.length cap) ∧ ShOn W N p S.tick (⟨.slice a S.tickI.length cap, S.g, S.tickI⟩ :: L) w' := by
  obtain ⟨F, hA, hB, hI⟩ := h
  exact (tick_any hA ho hn).mono fun E w' hp => ShOn.op hA hB hI hp
theorem so_out (h : ShOn W N p S L w) (ho : S.ok n) (hn : n ≤ 500) :
    Calls Try.prog 15 #[.pointer (some ⟨p, 0, none⟩)] w fun E w' => ∃ a cap, E = .returned (.slice a S.out.length cap) ∧ ShOn W N p S (⟨.slice a S.out.length cap, S.g, S.out⟩ :: L) w' ∧ Below w.heap.size w w' := by
  have h0 := h
  obtain ⟨F, hA, hB, hI⟩ := h
  refine (out_any hA ho hn).mono fun E w' hp => ?_
  obtain ⟨a, cap, he, hi, hb⟩ := hp
  refine ⟨a, cap, he, ⟨F, hA.below hb, hB.trans (hb.mono hA.size.1), fun x hx => ?_⟩, hb⟩
  rcases List.mem_cons.1 hx with rfl | hx
  · exact hi.mono (fun k _ hk f => by have := (hA.size.2.2 k f).2; omega)
  · exact (hI x hx).below hb
theorem so_waits (h : ShOn W N p S L w) (ho : S.ok n) (hn : n ≤ 500) :
    Calls Try.prog 16 #[.pointer (some ⟨p, 0, none⟩)] w fun E w' => ∃ a cap, E = .returned (.slice a S.waits.length cap) ∧ ShOn W N p S L w' ∧ Below w.heap.size w w' := by
  have h0 := h
  obtain ⟨F, hA, hB, hI⟩ := h
  exact (waits_any hA ho hn).mono fun E w' ⟨a, cap, he, _, hb⟩ => ⟨a, cap, he, h0.below hb, hb⟩
theorem so_room (h : ShOn W N p S L w) (ho : S.ok n) (r : Bool) : Calls Try.prog 17 #[.pointer (some ⟨p, 0, none⟩), .bool r] w fun E w' => E = .returned (.bool (S.room r)) ∧ ∃ n, w' = w.drewN n := by
  obtain ⟨F, hA, _⟩ := h
  exact room_any hA ho r
theorem so_left (h : ShOn W N p S L w) : Calls Try.prog 13 #[.pointer (some ⟨p, 0, none⟩)] w fun E w' => E = .returned (.tuple #[.int .i64 (S.pa.l : Nat), .bool (decide (0 < S.pa.l))]) ∧ ∃ n, w' = w.drewN n := by
  obtain ⟨F, hA, _⟩ := h
  exact left_any hA
theorem so_last (h : ShOn W N p S L w) : Calls Try.prog 23 #[.pointer (some ⟨p, 0, none⟩)] w fun E w' => E = .returned (.int .u64 (S.last : Nat)) ∧ w' = w := by
  obtain ⟨F, hA, _⟩ := h
  exact last_any hA
theorem so_new {a q f m : Nat} (hw : 1 ≤ a ∧ a ≤ 16) (hq : 2 ≤ q ∧ q ≤ 32) (hf : 1 ≤ f ∧ f ≤ m ∧ m ≤ 1000) (hB : Below N W w) (hN : N ≤ w.heap.size) :
    Calls Try.prog 9 #[.int .i64 (a : Int), .int .i64 (q : Int), .int .i64 (f : Int), .int .i64 (m : Int)] w fun E w' => ∃ p, E = .returned (.tuple #[.pointer (some ⟨p, 0, none⟩), .int .i64 0]) ∧ ShOn W N p (Sh.new a q f m) [] w' :=
  (sh_new w N a q f m hN hw hq hf).mono fun _ _ ⟨p, F, he, hA, hb, _⟩ => ⟨p, he, F, hA, hB.trans (hb.mono hN), fun x hx => by cases hx⟩
end

end Go.Proofs.Ytmahbmmeeifaiaa
