import Derived.Test.YtfbojcaedcimcaaMak
import Derived.Test.YtfbojcaedcimcaaMao

/-
  A tie, in memory; Room, Push, Tick, ack.
-/
namespace Go.Proofs.Ytfbojcaedcimcaa
open Go.RowKit

def tiC (p q : Nat) : Nat → Value
  | 0 => .pointer (some ⟨p, 0, none⟩)
  | _ => .pointer (some ⟨q, 0, none⟩)
/-- The blocks that it may write into: its own, its dock's two, its ship's. -/
def TieF (t q r : Nat) (Fs : Nat → Prop) (k : Nat) : Prop := k = t ∨ k = q ∨ k = r ∨ Fs k
/-- A tie in block t; X: all that anybody may write into: what it holds lies elsewhere. -/
structure TieR (X : Nat → Prop) (w : World) (N t p q r M : Nat) (Fs : Nat → Prop) (T : Te) : Prop where
  c : Cel 2 w t (tiC p q)
  s : ShAt w N p Fs T.s
  d : DkAt (fun k => ¬ X k) w q r M T.d
  st : ¬ Fs t
  sq : ¬ Fs q
  sr : ¬ Fs r
  tq : t ≠ q
  tr : t ≠ r
  low : N ≤ t ∧ N ≤ q ∧ N ≤ r
  x : ∀ k, TieF t q r Fs k → X k
/-- F: its blocks. -/
def TieAt (F X : Nat → Prop) (w : World) (N t : Nat) (T : Te) : Prop := ∃ p q r M Fs, TieR X w N t p q r M Fs T ∧ F = TieF t q r Fs

section
variable {F X Y G : Nat → Prop} {w w' w1 w2 W : World} {N t p q r M n c : Nat} {Fs Fs' : Nat → Prop} {T : Te} {S' : Sh} {D' : Dk}
theorem DkAt.lt {Z : Nat → Prop} {D : Dk} (h : DkAt Z w q r M D) : q < M ∧ r < M ∧ M ≤ w.heap.size ∧ q ≠ r := by
  obtain ⟨E, h1, _⟩ := h
  exact ⟨h1.pM, h1.qM, h1.size, h1.ne⟩
theorem TieR.lt (h : TieR X w N t p q r M Fs T) : ∀ k, TieF t q r Fs k → N ≤ k ∧ k < w.heap.size := by
  have hd := h.d.lt
  have hc := h.c.lt
  have hl := h.low
  rintro k (rfl | rfl | rfl | e)
  · omega
  · omega
  · omega
  · exact h.s.size.2.2 k e
theorem TieR.keep (h : TieR X w N t p q r M Fs T) (hk : Keep G w w') (hF : ∀ k, TieF t q r Fs k → ¬ G k) (hG : ∀ k, k < w.heap.size → G k → X k) : TieR X w' N t p q r M Fs T :=
  ⟨h.c.keep hk (hF t (Or.inl rfl)), h.s.keep hk (fun k e => hF k (Or.inr (Or.inr (Or.inr e)))), h.d.keep hk (hF q (Or.inr (Or.inl rfl))) (hF r (Or.inr (Or.inr (Or.inl rfl)))) (fun k hl hA g => hA.2 (hG k hl g)), h.st, h.sq, h.sr, h.tq, h.tr, h.low, h.x⟩
theorem TieR.below (h : TieR X w N t p q r M Fs T) (hb : Below w.heap.size w w') : TieR X w' N t p q r M Fs T := h.keep (G := fun _ => False) (Keep.ofBelow hb) (fun _ _ => id) (fun _ _ f => f.elim)
theorem TieR.wide (h : TieR X w N t p q r M Fs T) (hx : ∀ k, TieF t q r Fs k → Y k) (hY : ∀ k, k < w.heap.size → Y k → X k) : TieR Y w N t p q r M Fs T :=
  ⟨h.c, h.s, h.d.mono (fun k hk hn hy => hn (hY k hk hy)), h.st, h.sq, h.sr, h.tq, h.tr, h.low, hx⟩

/-- Its ship turned. -/
theorem TieR.ship (h : TieR X W N t p q r M Fs T) (hA : ShAt w1 N p Fs' S') (hK : Keep Fs W w1) (hF : ∀ j, Fs' j → Fs j ∨ W.heap.size ≤ j) (hb : Below w1.heap.size w1 w2) :
    TieR (fun k => X k ∨ TieF t q r Fs' k) w2 N t p q r M Fs' ⟨S', T.d⟩ ∧ (∀ k, TieF t q r Fs' k → TieF t q r Fs k ∨ W.heap.size ≤ k) ∧ Keep (TieF t q r Fs) W w2 := by
  have hl := h.lt
  have ht := (hl t (Or.inl rfl)).2
  have hq := (hl q (Or.inr (Or.inl rfl))).2
  have hr := (hl r (Or.inr (Or.inr (Or.inl rfl)))).2
  have hgrow : ∀ k, TieF t q r Fs' k → TieF t q r Fs k ∨ W.heap.size ≤ k := by
    rintro k (e | e | e | e)
    · exact Or.inl (Or.inl e)
    · exact Or.inl (Or.inr (Or.inl e))
    · exact Or.inl (Or.inr (Or.inr (Or.inl e)))
    · exact (hF k e).imp (fun e => Or.inr (Or.inr (Or.inr e))) id
  refine ⟨⟨(h.c.keep hK h.st).below hb, hA.below hb, ((h.d.mono (fun k hk hn hy => ?_)).keep hK h.sq h.sr (fun k hk hA' g => ?_)).below hb, fun e => ?_, fun e => ?_, fun e => ?_, h.tq, h.tr, h.low, fun k hk => Or.inr hk⟩, hgrow, (hK.mono (fun k e => Or.inr (Or.inr (Or.inr e)))).trans (Keep.ofBelow (F := fun _ => False) hb) (fun _ _ f => f.elim)⟩
  · rcases hy with hy | hy
    · exact hn hy
    · rcases hgrow k hy with e | e
      · exact hn (h.x k e)
      · omega
  · exact hA'.2 (Or.inl (h.x k (Or.inr (Or.inr (Or.inr g)))))
  · exact (hF t e).elim h.st (fun l => by omega)
  · exact (hF q e).elim h.sq (fun l => by omega)
  · exact (hF r e).elim h.sr (fun l => by omega)
/-- Its dock turned. -/
theorem TieR.dock (h : TieR X W N t p q r M Fs T) (hA : DkAt (fun k => ¬ X k) w1 q r M D') (hK : Keep (PQ q r) W w1) : TieR X w1 N t p q r M Fs ⟨T.s, D'⟩ ∧ Keep (TieF t q r Fs) W w1 := by
  refine ⟨⟨h.c.keep hK (fun e => e.elim h.tq h.tr), h.s.keep hK (fun k e f => ?_), hA, h.st, h.sq, h.sr, h.tq, h.tr, h.low, h.x⟩, hK.mono (fun k e => e.elim (fun e => Or.inr (Or.inl e)) (fun e => Or.inr (Or.inr (Or.inl e))))⟩
  rcases f with f | f
  · exact h.sq (f ▸ e)
  · exact h.sr (f ▸ e)

theorem TieAt.lt (h : TieAt F X w N t T) : ∀ k, F k → N ≤ k ∧ k < w.heap.size := by
  obtain ⟨p, q, r, M, Fs, h, rfl⟩ := h
  exact h.lt
theorem TieAt.x (h : TieAt F X w N t T) : ∀ k, F k → X k := by
  obtain ⟨p, q, r, M, Fs, h, rfl⟩ := h
  exact h.x
theorem TieAt.keep (h : TieAt F X w N t T) (hk : Keep G w w') (hF : ∀ k, F k → ¬ G k) (hG : ∀ k, k < w.heap.size → G k → X k) : TieAt F X w' N t T := by
  obtain ⟨p, q, r, M, Fs, h, rfl⟩ := h
  exact ⟨p, q, r, M, Fs, h.keep hk hF hG, rfl⟩
theorem TieAt.below (h : TieAt F X w N t T) (hb : Below w.heap.size w w') : TieAt F X w' N t T := by
  obtain ⟨p, q, r, M, Fs, h, rfl⟩ := h
  exact ⟨p, q, r, M, Fs, h.below hb, rfl⟩
theorem TieAt.drewN (h : TieAt F X w N t T) (k : Nat) : TieAt F X (w.drewN k) N t T := h.below ⟨rfl, rfl, rfl, Nat.le_refl _, fun _ _ => rfl⟩
theorem TieAt.wide (h : TieAt F X w N t T) (hx : ∀ k, F k → Y k) (hY : ∀ k, k < w.heap.size → Y k → X k) : TieAt F Y w N t T := by
  obtain ⟨p, q, r, M, Fs, h, rfl⟩ := h
  exact ⟨p, q, r, M, Fs, h.wide hx hY, rfl⟩
end

/-- What a call leaves: what goes out, in new memory; it has more blocks, all else as it was. -/
def TiePost (W : World) (N t : Nat) (F X : Nat → Prop) (T : Te) (ret : Value → Value) (ss : List ByteArray) (E : Ending) (w' : World) : Prop :=
  ∃ F' a cap, E = .returned (ret (.slice a ss.length cap)) ∧ TieAt F' (fun k => X k ∨ F' k) w' N t T ∧ Keep F W w' ∧ (∀ k, F' k → F k ∨ W.heap.size ≤ k) ∧ WtR (fun k => ¬ (X k ∨ F' k)) w' (.slice a ss.length cap) ss

theorem numd_map {g : Nat} {ss : List ByteArray} : ((numd g ss).map wireD).length = ss.length := by rw [List.length_map, numd_len]

section
variable {F X : Nat → Prop} {W w1 w2 : World} {N t n c : Nat} {T : Te}
theorem tie_cells (h : TieAt F X W N t T) : ∃ p q r M Fs, TieR X W N t p q r M Fs T ∧ F = TieF t q r Fs ∧ W.cell? ⟨t, 0, none⟩ = some (.pointer (some ⟨p, 0, none⟩)) ∧ W.cell? ⟨t, 1, none⟩ = some (.pointer (some ⟨q, 0, none⟩)) := by
  obtain ⟨p, q, r, M, Fs, h, e⟩ := h
  exact ⟨p, q, r, M, Fs, h, e, h.c.c 0 (by decide), h.c.c 1 (by decide)⟩


/-- The ship has turned, what goes out is framed: the tie's. -/
theorem tie_sent {p q r M g k0 : Nat} {Fs Fs' : Nat → Prop} {S' : Sh} {is : List ByteArray} {ret : Value → Value} {v : Value} (h : TieR X W N t p q r M Fs T) (hX : ∀ k, X k → k < W.heap.size) (hA : ShAt w1 N p Fs' S') (hK : Keep Fs W w1) (hF : ∀ j, Fs' j → Fs j ∨ W.heap.size ≤ j)
    (hb : Below w1.heap.size w1 w2) (hv : WtR (fun k => w1.heap.size ≤ k) w2 v ((numd g is).map wireD)) (hk : k0 = is.length) (a : Option Addr) (cap : Nat) (e : v = .slice a k0 cap) :
    TiePost W N t (TieF t q r Fs) X ⟨S', T.d⟩ ret ((numd g is).map wireD) (.returned (ret v)) w2 := by
  obtain ⟨h1, h2, h3⟩ := h.ship hA hK hF hb
  have hs1 := hK.size
  subst e hk
  refine ⟨TieF t q r Fs', a, cap, by rw [numd_map], ⟨p, q, r, M, Fs', h1, rfl⟩, h3, h2, ?_⟩
  rw [numd_map]
  refine hv.mono (fun k hk hl f => ?_)
  rcases f with f | f | f | f | f
  · have := hX k f; omega
  · have := (h.lt t (Or.inl rfl)).2; omega
  · have := (h.lt q (Or.inr (Or.inl rfl))).2; omega
  · have := (h.lt r (Or.inr (Or.inr (Or.inl rfl)))).2; omega
  · have := (hA.size.2.2 k f).2
    omega

set_option maxHeartbeats 2000000 in
theorem tie_push {A : Nat → Prop} {b : Bd} {r : Bool} (h : TieAt F X W N t T) (hX : ∀ k, X k → k < W.heap.size) (ho : T.s.ok n) (hn : n ≤ 500) (hb : BodyV A W b) (hbs : b.s.size ≤ 30000) :
    Calls Try.prog 9 #[.pointer (some ⟨t, 0, none⟩), .slice b.a b.s.size b.c, .bool r] W (TiePost W N t F X (T.push r b.s) (fun v => .tuple #[v, .bool (T.s.room r)]) (T.pushO r b.s)) := by
  obtain ⟨p, q, rr, M, Fs, hR, rfl, c0, -⟩ := tie_cells h
  have SP := Lib.hid (push_any (r := r) hR.s ho hn hb hbs)
  have hp := ho.pushed (r := r) hbs
  have hall := hp.all
  have hln : (T.s.pushI r b.s).length ≤ 1000 := by
    have h1 := (goes_pushed (r := r) ho hbs).1
    have h2 := hp.last_le
    omega
  have hlg : T.s.last ≤ 1000000 := by have := ho.last_le; omega
  have FI := Lib.hid (fun (w1 : World) (v : Value) (A : Nat → Prop) (hi : ItR A w1 v T.s.last (T.s.pushI r b.s)) => framed_any hi hln hlg)
  have DN := Lib.hid (fun (w1 w2 : World) (Fs' : Nat → Prop) (hA : ShAt w1 N p Fs' (T.s.pushed r b.s)) (hK : Keep Fs W w1) (hF : ∀ j, Fs' j → Fs j ∨ W.heap.size ≤ j) (hb : Below w1.heap.size w1 w2) (v : Value) (hv : WtR (fun k => w1.heap.size ≤ k) w2 v ((numd T.s.last (T.s.pushI r b.s)).map wireD)) (k0 : Nat) (hk : k0 = (T.s.pushI r b.s).length) (a : Option Addr) (cap : Nat) (e : v = .slice a k0 cap) =>
    tie_sent (ret := fun v => .tuple #[v, .bool (T.s.room r)]) hR hX hA hK hF hb hv hk a cap e)
  have d1 : decide ((b.s.size : Int) > 30000) = false := decide_eq_false (by omega)
  have d2 : decide (30000 < b.s.size) = false := decide_eq_false (by omega)
  show Calls _ _ _ _ (TiePost W N t (TieF t q rr Fs) X ⟨T.s.pushed r b.s, T.d⟩ _ ((numd T.s.last (T.s.pushI r b.s)).map wireD))
  obtain ⟨is, his⟩ : ∃ is, T.s.pushI r b.s = is := ⟨_, rfl⟩
  obtain ⟨rm, hrm⟩ : ∃ rm, T.s.room r = rm := ⟨_, rfl⟩
  rw [his, hrm] at SP DN
  rw [his] at FI
  rw [his, hrm]
  obtain ⟨nn, hnn⟩ : ∃ nn, b.s.size = nn := ⟨_, rfl⟩
  rw [hnn] at SP d1 d2 ⊢
  clear h hR ho hb hbs hp hall hln hlg hX his hrm hnn
  go_enter Try.func9, Try.ntmps9
  go_wp2_with (first
    | (go_at_call 22; refine SP.out.mono ?_
       rintro e w1 ⟨Fs', a, cap, rfl, hA, hK, hF, hi⟩
       have HA := Lib.hid hA
       have HK := Lib.hid hK
       have HF := Lib.hid hF
       have HI := Lib.hid hi
       clear hA hK hF hi)
    | (go_at_call 18; refine (FI.out w1 _ _ HI.out).mono ?_
       rintro e w2 ⟨a2, cap2, he, hv, hb2⟩
       rw [numd_map] at he hv
       subst he
       have PP := Lib.hid (DN.out w1 w2 Fs' HA.out HK.out HF.out hb2 _ hv _ rfl a2 cap2 rfl)
       clear hv hb2))
  go_ret2
  exact PP.out
end

end Go.Proofs.Ytfbojcaedcimcaa
