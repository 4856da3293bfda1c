/-
  Texts of this claim, put together.
-/
import Derived.Test.YtopnagjbdjicaaaZdsm
import Derived.Test.YtopnagjbdjicaaaCsgm
import Derived.Test.YtopnagjbdjicaaaMai
import Derived.Deep.Cut
import Derived.Test.YtopnagjbdjicaaaMam
import Derived.Deep.RegionHeld3
import Derived.Test.YtopnagjbdjicaaaWregm
import Derived.Deep.CutRange

/-
  Rows of bytes; acts of an engine; the program's own engine (how it lies).
-/
namespace Go.Proofs.Ytopnagjbdjicaaa
open Go.RowKit

/-- A slice of slices of bytes; what it has lies in blocks that A lets. -/
def BqAt (A : Nat → Prop) (w : World) (a : Option Addr) (cap n : Nat) (m : List (List Nat)) : Prop :=
  ∃ L, mOf L = m ∧ L.length = n ∧ SlV w a cap (L.map rdV) ∧ (∀ r ∈ L, SlAt bV 256 w r.a r.c r.l) ∧ (∀ ad, a = some ad → n ≠ 0 → A ad.block) ∧ ∀ r ∈ L, ∀ ad, r.a = some ad → r.l ≠ [] → A ad.block
section
variable {A A' : Nat → Prop} {w w' : World} {a : Option Addr} {cap n : Nat} {m : List (List Nat)}
theorem BqAt.below (h : BqAt A w a cap n m) (hb : Below w.heap.size w w') : BqAt A w' a cap n m := by
  obtain ⟨L, e, l, s, t, x, y⟩ := h
  exact ⟨L, e, l, s.below hb, fun r hr => (t r hr).below hb, x, y⟩
theorem BqAt.keep {G : Nat → Prop} (h : BqAt A w a cap n m) (hk : Keep G w w') (hA : ∀ k, A k → ¬ G k) : BqAt A w' a cap n m := by
  obtain ⟨L, e, l, s, t, x, y⟩ := h
  exact ⟨L, e, l, s.carry hk.size fun ad ea hne hlt => hk.block _ hlt (hA _ (x ad ea (fun h0 => hne (by rw [List.length_eq_zero_iff.1 (l.trans h0)]; rfl)))), fun r hr => (t r hr).carry hk.size fun ad ea hne hlt => hk.block _ hlt (hA _ (y r hr ad ea hne)), x, y⟩
theorem BqAt.mono (h : BqAt A w a cap n m) (hA : ∀ k, k < w.heap.size → A k → A' k) : BqAt A' w a cap n m := by
  obtain ⟨L, e, l, s, t, x, y⟩ := h
  refine ⟨L, e, l, s, t, fun ad ea hn => ?_, fun r hr ad ea hne => ?_⟩
  · obtain ⟨b, off, e2, hb, -⟩ := s.at 0 (by omega)
    rw [ea] at e2
    cases e2
    exact hA _ hb (x _ ea hn)
  · obtain ⟨b, off, e2, hb, -⟩ := (t r hr).cell 0 (List.length_pos_iff.2 hne)
    rw [ea] at e2
    cases e2
    exact hA _ hb (y r hr _ ea hne)
theorem BqAt.len (h : BqAt A w a cap n m) : m.length = n := by
  obtain ⟨L, e, l, -⟩ := h
  rw [← e, mOf_len, l]
theorem BqAt.fit (h : BqAt A w a cap n m) : n ≤ cap ∧ cap ≤ maxLen := by
  obtain ⟨L, e, l, s, -⟩ := h
  have := s.fit
  rw [List.length_map, l] at this
  exact ⟨this, s.max⟩
theorem BqAt.row (h : BqAt A w a cap n m) {i : Nat} (hi : i < n) : ∃ b off ra rc, a = some ⟨b, off, none⟩ ∧ w.cell? ⟨b, off + i, none⟩ = some (.slice ra (m.getD i []).length rc) ∧ SlAt bV 256 w ra rc (m.getD i []) ∧ ∀ ad, ra = some ad → m.getD i [] ≠ [] → A ad.block := by
  obtain ⟨L, e, l, s, t, x, y⟩ := h
  subst e
  have hL : i < L.length := by omega
  obtain ⟨b, off, ea, -, hc⟩ := s.at i hL
  have em : (mOf L).getD i [] = L[i].l := by rw [List.getD, List.getElem?_eq_getElem (by rw [mOf_len]; exact hL), mOf_at hL]; rfl
  rw [em]
  exact ⟨b, off, L[i].a, L[i].c, ea, hc, t _ (List.getElem_mem _), y _ (List.getElem_mem _)⟩
end

/-! Acts. -/
structure Fa where
  op : Int
  fr : Int
  pl : Int
  t : Nat
  s : Rd
instance : Inhabited Fa := ⟨⟨0, 0, 0, 0, ⟨none, 0, []⟩⟩⟩
structure FaAt (w : World) (a : Option Addr) (cap : Nat) (l : List Fa) : Prop where
  fit : l.length ≤ cap
  max : cap ≤ maxLen
  nil : a = none → cap = 0
  cell : ∀ i (h : i < l.length), ∃ b off, a = some ⟨b, off, none⟩ ∧ b < w.heap.size ∧ w.cell? ⟨b, off + i * 5, none⟩ = some (.int .i64 l[i].op) ∧ w.cell? ⟨b, off + i * 5 + 1, none⟩ = some (.int .i64 l[i].fr) ∧ w.cell? ⟨b, off + i * 5 + 2, none⟩ = some (.int .i64 l[i].pl) ∧
    w.cell? ⟨b, off + i * 5 + 3, none⟩ = some (.int .u64 (l[i].t : Int)) ∧ w.cell? ⟨b, off + i * 5 + 4, none⟩ = some (.slice l[i].s.a l[i].s.l.length l[i].s.c)
  body : ∀ x ∈ l, SlAt bV 256 w x.s.a x.s.c x.s.l ∧ x.t < 18446744073709551616 ∧ IntOk x.fr
theorem FaAt.below {w w' : World} {a : Option Addr} {cap : Nat} {l : List Fa} (h : FaAt w a cap l) (hb : Below w.heap.size w w') : FaAt w' a cap l :=
  ⟨h.fit, h.max, h.nil, fun i hi => by
    obtain ⟨b, off, e, hl, c0, c1, c2, c3, c4⟩ := h.cell i hi
    exact ⟨b, off, e, Nat.lt_of_lt_of_le hl hb.size, cell_go c0 hb, cell_go c1 hb, cell_go c2 hb, cell_go c3 hb, cell_go c4 hb⟩, fun x hx => ⟨(h.body x hx).1.below hb, (h.body x hx).2⟩⟩

end Go.Proofs.Ytopnagjbdjicaaa

/-
  The program's own engine: how it lies; what its calls leave.
-/
namespace Go.Proofs.Ytopnagjbdjicaaa
open Go.RowKit

def enC (e : En) (s g : Value) : Nat → Value := fun o => if o = 0 then .int .i64 e.me else if o = 1 then .int .i64 e.n else if o = 2 then s else g
/-- The program's own engine in block p, all of it in blocks of F. -/
structure EnV (w : World) (F : Nat → Prop) (p : Nat) (e : En) (sa : Option Addr) (sc : Nat) (ga : Option Addr) (gc : Nat) : Prop where
  c : Cel 4 w p (enC e (.slice sa e.n sc) (.slice ga e.n gc))
  s : SqAt (fun k => F k ∧ k ≠ p) w sa sc e.n e.S
  g : SlAt qV QM w ga gc e.G
  gF : ∀ ad, ga = some ad → e.G ≠ [] → F ad.block ∧ ad.block ≠ p
  p : F p
  low : ∀ k, F k → k < w.heap.size
  ok : e.ok
def EnAt (w : World) (F : Nat → Prop) (p : Nat) (e : En) : Prop := ∃ sa sc ga gc, EnV w F p e sa sc ga gc
theorem EnV.keep {w w' : World} {F G : Nat → Prop} {p : Nat} {e : En} {sa ga : Option Addr} {sc gc : Nat} (h : EnV w F p e sa sc ga gc) (hk : Keep G w w') (hF : ∀ k, F k → ¬ G k) : EnV w' F p e sa sc ga gc :=
  ⟨h.c.keep hk (hF p h.p), h.s.keep hk (fun k hk => hF k hk.1), h.g.carry hk.size (fun ad e hne hlt => hk.block _ hlt (hF _ (h.gF ad e hne).1)), h.gF, h.p, fun k f => Nat.lt_of_lt_of_le (h.low k f) hk.size, h.ok⟩
theorem EnAt.keep {w w' : World} {F G : Nat → Prop} {p : Nat} {e : En} (h : EnAt w F p e) (hk : Keep G w w') (hF : ∀ k, F k → ¬ G k) : EnAt w' F p e := by
  obtain ⟨sa, sc, ga, gc, h⟩ := h
  exact ⟨sa, sc, ga, gc, h.keep hk hF⟩
theorem EnAt.below {w w' : World} {F : Nat → Prop} {p : Nat} {e : En} (h : EnAt w F p e) (hb : Below w.heap.size w w') : EnAt w' F p e := h.keep (Keep.ofBelow (F := fun _ => False) hb) (fun _ _ => id)
theorem EnAt.low {w : World} {F : Nat → Prop} {p : Nat} {e : En} (h : EnAt w F p e) : ∀ k, F k → k < w.heap.size := by
  obtain ⟨sa, sc, ga, gc, h⟩ := h
  exact h.low
theorem EnAt.ok {w : World} {F : Nat → Prop} {p : Nat} {e : En} (h : EnAt w F p e) : e.ok := by
  obtain ⟨sa, sc, ga, gc, h⟩ := h
  exact h.ok
theorem DeAt.low {w : World} {F : Nat → Prop} {p : Nat} {e : En} (h : DeAt w F p e) : ∀ k, F k → k < w.heap.size := by
  obtain ⟨sa, sc, ga, gc, h⟩ := h
  exact h.low
theorem DeAt.ok {w : World} {F : Nat → Prop} {p : Nat} {e : En} (h : DeAt w F p e) : e.ok := by
  obtain ⟨sa, sc, ga, gc, h⟩ := h
  exact h.ok

/-! What a call leaves. -/
def EnNew (W : World) (e : En) (x : Ending) (w' : World) : Prop := ∃ p F, x = .returned (.tuple #[.pointer (some ⟨p, 0, none⟩), .int .i64 0]) ∧ EnAt w' F p e ∧ Below W.heap.size W w' ∧ ∀ k, F k → W.heap.size ≤ k
def EnGo (w : World) (F : Nat → Prop) (p : Nat) (e : En) (r : Value) (x : Ending) (w' : World) : Prop := ∃ F', x = .returned r ∧ EnAt w' F' p e ∧ Keep F w w' ∧ ∀ k, F' k → F k ∨ w.heap.size ≤ k
def EnSend (w : World) (F : Nat → Prop) (p : Nat) (e : En) (L : List Nat) (c : Nat) (x : Ending) (w' : World) : Prop :=
  ∃ a cap F', x = .returned (.slice a c cap) ∧ BqAt (fun k => w.heap.size ≤ k ∧ ¬ F' k) w' a cap c (List.replicate c L) ∧ EnAt w' F' p e ∧ Keep F w w' ∧ ∀ k, F' k → F k ∨ w.heap.size ≤ k
/-- A square that is read. -/
def RfPost (W : World) (z : Int) (o : Option (List (List Nat))) (e : Ending) (w' : World) : Prop := match o with
  | some m => ∃ a' c', e = .returned (.tuple #[.agg #[.int .i64 z, .slice a' m.length c'], .bool true]) ∧ SqR (fun _ => False) W m.length m a' c' w'
  | none => e = .returned (.tuple #[.agg #[.int .i64 0, .slice none 0 0], .bool false]) ∧ Below W.heap.size W w'
theorem RfPost.none {W w' : World} {z : Int} {e : Ending} (h : RfPost W z none e w') : e = .returned (.tuple #[.agg #[.int .i64 0, .slice none 0 0], .bool false]) ∧ Below W.heap.size W w' := h
theorem RfPost.some {W w' : World} {z : Int} {e : Ending} {m : List (List Nat)} (h : RfPost W z (some m) e w') : ∃ a' c', e = .returned (.tuple #[.agg #[.int .i64 z, .slice a' m.length c'], .bool true]) ∧ SqR (fun _ => False) W m.length m a' c' w' := h


theorem EnV.mono {w : World} {F F' : Nat → Prop} {p : Nat} {e : En} {sa ga : Option Addr} {sc gc : Nat} (h : EnV w F p e sa sc ga gc) (hF : ∀ k, F k → F' k) (hl : ∀ k, F' k → k < w.heap.size) : EnV w F' p e sa sc ga gc :=
  ⟨h.c, h.s.mono (fun k _ hk => ⟨hF k hk.1, hk.2⟩), h.g, fun ad e hne => ⟨hF _ (h.gF ad e hne).1, (h.gF ad e hne).2⟩, hF p h.p, hl, h.ok⟩
/-- Another square is stored. -/
theorem EnV.setS {w w3 : World} {F : Nat → Prop} {p : Nat} {e : En} {sa ga a' : Option Addr} {sc gc c' : Nat} {S' : List (List Nat)} (h : EnV w F p e sa sc ga gc) (hS : SqR (fun _ => False) w e.n S' a' c' w3) (ok : ({ e with S := S' } : En).ok) :
    w3.cell? ⟨p, 1, none⟩ = some (.int .i64 e.n) ∧ w3.cell? ⟨p, 2, none⟩ = some (.slice sa e.n sc) ∧ w3.frozen? ⟨p, 1, none⟩ = false ∧ w3.frozen? ⟨p, 2, none⟩ = false ∧
      EnV ((w3.setCell ⟨p, 1, none⟩ (.int .i64 e.n)).setCell ⟨p, 2, none⟩ (.slice a' e.n c')) (fun k => F k ∨ (w.heap.size ≤ k ∧ k < w3.heap.size)) p { e with S := S' } a' c' ga gc ∧ Keep F w ((w3.setCell ⟨p, 1, none⟩ (.int .i64 e.n)).setCell ⟨p, 2, none⟩ (.slice a' e.n c')) := by
  obtain ⟨hs, hb⟩ := hS
  have h3 := h.keep (Keep.ofBelow (F := fun _ => False) hb) (fun _ _ => id)
  have hq := h.low p h.p
  have sz := hb.size
  refine ⟨h3.c.c 1 (by decide), h3.c.c 2 (by decide), h3.c.fz 1, h3.c.fz 2, ⟨?_, ?_, ?_, ?_, Or.inl h.p, ?_, ok⟩, ?_⟩
  · refine ((h3.c.put 1 _).put 2 _).conv fun o ho => ?_
    unfold updc enC
    rcases (show o = 0 ∨ o = 1 ∨ o = 2 ∨ o = 3 by omega) with rfl | rfl | rfl | rfl <;> rfl
  · refine ((hs.mono (A' := fun k => (F k ∨ (w.heap.size ≤ k ∧ k < w3.heap.size)) ∧ k ≠ p) (fun k hk ha => ?_)).put (fun h => h.2 rfl) 1 _).put (fun h => h.2 rfl) 2 _
    rcases ha with ha | ha
    · exact ha.elim
    · exact ⟨Or.inr ⟨ha, hk⟩, by omega⟩
  · exact (h3.g.carry (w' := w3.setCell ⟨p, 1, none⟩ (.int .i64 e.n)) (by simp [World.setCell]) (fun ad e hne _ => Below.heap_setCell _ _ _ _ (h3.gF ad e hne).2)).carry (by simp [World.setCell]) (fun ad e hne _ => Below.heap_setCell _ _ _ _ (h3.gF ad e hne).2)
  · exact fun ad e hne => ⟨Or.inl (h3.gF ad e hne).1, (h3.gF ad e hne).2⟩
  · intro k hk
    have : ((w3.setCell ⟨p, 1, none⟩ (.int .i64 e.n)).setCell ⟨p, 2, none⟩ (.slice a' e.n c')).heap.size = w3.heap.size := by simp [World.setCell]
    rcases hk with hk | hk
    · have := h3.low k hk; omega
    · omega
  · exact ((Keep.ofBelow (F := F) hb).setCell (p := ⟨p, 1, none⟩) h.p _).setCell (p := ⟨p, 2, none⟩) h.p _
/-- Another row is stored. -/
theorem EnV.setG {w w3 : World} {F : Nat → Prop} {p : Nat} {e : En} {sa ga a' : Option Addr} {sc gc c' : Nat} {G' : List Nat} (h : EnV w F p e sa sc ga gc) (hs : SlAt qV QM w3 a' c' G') (hb : Below w.heap.size w w3) (hf : ∀ ad, a' = some ad → w.heap.size ≤ ad.block) (ok : ({ e with G := G' } : En).ok) :
    w3.cell? ⟨p, 3, none⟩ = some (.slice ga e.n gc) ∧ w3.frozen? ⟨p, 3, none⟩ = false ∧ EnV (w3.setCell ⟨p, 3, none⟩ (.slice a' e.n c')) (fun k => F k ∨ (w.heap.size ≤ k ∧ k < w3.heap.size)) p { e with G := G' } sa sc a' c' ∧ Keep F w (w3.setCell ⟨p, 3, none⟩ (.slice a' e.n c')) := by
  have h3 := h.keep (Keep.ofBelow (F := fun _ => False) hb) (fun _ _ => id)
  have hq := h.low p h.p
  have sz := hb.size
  refine ⟨h3.c.c 3 (by decide), h3.c.fz 3, ⟨?_, ?_, ?_, ?_, Or.inl h.p, ?_, ok⟩, ?_⟩
  · refine (h3.c.put 3 _).conv fun o ho => ?_
    unfold updc enC
    rcases (show o = 0 ∨ o = 1 ∨ o = 2 ∨ o = 3 by omega) with rfl | rfl | rfl | rfl <;> rfl
  · exact (h3.s.mono (A' := fun k => (F k ∨ (w.heap.size ≤ k ∧ k < w3.heap.size)) ∧ k ≠ p) (fun k _ ha => ⟨Or.inl ha.1, ha.2⟩)).put (fun h => h.2 rfl) 3 _
  · exact hs.carry (by simp [World.setCell]) (fun ad e _ _ => Below.heap_setCell _ _ _ _ (by have := hf ad e; show ad.block ≠ p; omega))
  · intro ad e hne
    obtain ⟨b, off, e2, hl, -⟩ := hs.at (i := 0) (List.length_pos_iff.2 hne)
    rw [e] at e2
    cases e2
    have := hf _ e
    simp only at this
    exact ⟨Or.inr ⟨this, hl⟩, by show b ≠ p; omega⟩
  · intro k hk
    have : (w3.setCell ⟨p, 3, none⟩ (.slice a' e.n c')).heap.size = w3.heap.size := by simp [World.setCell]
    rcases hk with hk | hk
    · have := h3.low k hk; omega
    · omega
  · exact (Keep.ofBelow (F := F) hb).setCell (p := ⟨p, 3, none⟩) h.p _
/-- All processes but one's own. -/
def othE (n me : Nat) : Nat := allN (n : Int) &&& (18446744073709551615 - 2 ^ me)
theorem othE_lt (n me : Nat) : othE n me < 18446744073709551616 := Nat.lt_of_le_of_lt Nat.and_le_left (allN_lt _)
theorem othE_to (n me t : Nat) : t &&& othE n me = toE n me t := by
  unfold othE toE
  rw [Nat.and_assoc]
theorem stamp_len {z : Int} {m : List (List Nat)} (g : goodM z m = true) (h : ∀ r ∈ m, ∀ x ∈ r, x < QM) : (stampL m).length ≤ 2560 := by
  obtain ⟨n, e9, -, h2, h3, h4⟩ := goodM_is g
  have := stampL_len (m := m) (n := 16) (fun r hr => by rw [h4 r hr]; omega) h
  have h5 : 10 * 16 * m.length ≤ 10 * 16 * 16 := Nat.mul_le_mul_left _ (by omega)
  omega
theorem stampE_len {e : En} (h : e.ok) : (stampL e.S).length ≤ 2560 := stamp_len h.S h.lt

end Go.Proofs.Ytopnagjbdjicaaa

/-
  full.New.
-/
namespace Go.Proofs.Ytopnagjbdjicaaa
open Go.RowKit

theorem has_all {n : Nat} {y : Int} (hn : n ≤ 16) : hasN (allN (n : Int)) y = decide (0 ≤ y ∧ y < (n : Int)) := by
  unfold hasN
  by_cases h : 0 ≤ y ∧ y < (n : Int)
  · rw [decide_eq_true h, decide_eq_true (show 0 ≤ y ∧ y < 64 by omega), all_test, decide_eq_true (show ((y.toNat : Nat) : Int) < (n : Int) ∧ y.toNat < 64 by omega)]; rfl
  · rw [decide_eq_false h]
    by_cases h2 : 0 ≤ y ∧ y < 64
    · rw [all_test, decide_eq_false (show ¬ (((y.toNat : Nat) : Int) < (n : Int) ∧ y.toNat < 64) by omega)]; simp
    · rw [decide_eq_false h2]; rfl
theorem enC_new (w : World) (n me : Int) (s g : Value) (t : TypeId) (e : En) (h1 : (e.n : Int) = n) (h2 : (e.me : Int) = me) : Cel 4 (w.alloc (.cells #[.int .i64 me, .int .i64 n, s, g] t)) w.heap.size (enC e s g) := by
  subst h1 h2
  exact (Cel.new w [.int .i64 e.me, .int .i64 e.n, s, g] t).conv (fun o ho => by rcases (show o = 0 ∨ o = 1 ∨ o = 2 ∨ o = 3 by simp at ho; omega) with rfl | rfl | rfl | rfl <;> rfl)

set_option maxRecDepth 20000 in
set_option maxHeartbeats 8000000 in
theorem en_new (W : World) {n me : Nat} {z y : Int} (hz : (n : Int) = z) (hy : (me : Int) = y) (h1 : 1 ≤ n) (h2 : n ≤ 16) (hm : me < n) :
    Calls Try.prog 9 #[.int .i64 z, .int .i64 y] W (EnNew W (newE n me)) := by
  subst hz hy
  have CM := Lib.hid (mnew_yes (W := W) (n := n) (z := (n : Int)) rfl h1 h2)
  have CA := Lib.hid (fun w => all_any (n : Int) w (by unfold IntOk; omega))
  have CH := Lib.hid (fun w => has_any (allN (n : Int)) (me : Int) w (allN_lt _) (by unfold IntOk; omega))
  have HH := Lib.hid (show hasN (allN (n : Int)) (me : Int) = true from by rw [has_all h2]; exact decide_eq_true ⟨by omega, by omega⟩)
  rw [HH.out] at CH
  have CV := Lib.hid (fun w => vnew_at w (z := (n : Int)) (n := n) rfl h2)
  have OK := Lib.hid (newE_ok h1 h2 hm)
  clear HH h1 h2 hm
  generalize allN (n : Int) = al at *
  go_enter Try.func9, Try.ntmps9
  go_wp2_with fail
  refine CM.out.mono ?_
  rintro e w1 ⟨sa, sc, rfl, hS, hb1⟩
  obtain ⟨w2, hw2⟩ : ∃ w2, w2 = w1.alloc (.cells #[.int .i64 (n : Int), .slice sa n sc] 37) := ⟨_, rfl⟩
  have b2 : Below w1.heap.size w1 w2 := by rw [hw2]; exact box_b _ _
  have V := Lib.hid (show MtV (NewA W (fun _ => False)) w2 w1.heap.size (n : Int) sa sc n (zerosM n) from by rw [hw2]; exact MtV.new hS _)
  have B := Lib.hid (hb1.trans (b2.mono hb1.size))
  have HW2 := Lib.hid hw2.symm
  clear hS hb1 b2 hw2 CM
  go_upto_region 2 with fail
  rw [HW2.out]
  generalize w1.heap.size = p6 at *
  clear HW2
  go_wp2_with (first
    | (go_at_call 34; refine (CA.out _).mono ?_; rintro x w' ⟨rfl, rfl⟩)
    | (go_at_call 33; refine (CH.out _).mono ?_; rintro x w3 ⟨rfl, hb3⟩))
  replace V := Lib.hid (V.out.below hb3)
  replace B := Lib.hid (B.out.trans (hb3.mono B.out.size))
  have c0 := V.out.c0
  have c1 := V.out.c1
  have c0d : w3.drew.cell? ⟨p6, 0, none⟩ = some (.int .i64 (n : Int)) := c0
  have c1d : w3.drew.cell? ⟨p6, 1, none⟩ = some (.slice sa n sc) := c1
  have CN := Lib.hid (CV.out w3.drew)
  have FIN := Lib.hid (fun (w4 : World) (ga : Option Addr) (gc : Nat) (h4 : Below w3.drew.heap.size w3.drew w4) (ho : w4.ownsRow w3.drew.heap.size 29 1 (.slice ga (List.replicate n 0).length gc) (List.replicate n 0).length ((List.replicate n 0).map qV)) =>
    show w4.cell? ⟨p6, 0, none⟩ = some (.int .i64 (n : Int)) ∧ w4.cell? ⟨p6, 1, none⟩ = some (.slice sa n sc) ∧ EnNew W (newE n me) (.returned (.tuple #[.pointer (some ⟨w4.heap.size, 0, none⟩), .int .i64 0])) (w4.alloc (.cells #[.int .i64 (me : Int), .int .i64 (n : Int), .slice sa n sc, .slice ga n gc] 77)) from by
      have hb4 : Below w3.heap.size w3 w4 := (drew_below w3).trans h4
      have V4 := V.out.below hb4
      have B4 := B.out.trans (hb4.mono B.out.size)
      have sz := B4.size
      have s3 := hb4.size
      have b0 := B.out.size
      have bx := box_b w4 (.cells #[.int .i64 (me : Int), .int .i64 (n : Int), .slice sa n sc, .slice ga n gc] 77)
      obtain ⟨-, a2, c2, e2, hsl⟩ := own_sl ho (zeros_lt n)
      rw [List.length_replicate] at e2
      simp only [Value.slice.injEq, true_and] at e2
      obtain ⟨rfl, rfl⟩ := e2
      refine ⟨V4.c0, V4.c1, w4.heap.size, fun k => W.heap.size ≤ k ∧ k < w4.heap.size + 1, rfl, ⟨sa, sc, ga, gc, enC_new w4 _ _ _ _ _ _ rfl rfl, ?_, hsl.below bx, ?_, ⟨sz, Nat.lt_succ_self _⟩, fun k hk => by rw [size_one]; exact hk.2, OK.out⟩, B4.trans (bx.mono sz), fun k hk => hk.1⟩
      · exact (V4.s.mono (A' := fun k => (W.heap.size ≤ k ∧ k < w4.heap.size + 1) ∧ k ≠ w4.heap.size) (fun k hk ha => ha.elim (fun h => h.elim) (fun h => ⟨⟨h, by omega⟩, by omega⟩))).below bx
      · intro ad e hne
        have := ho.lt ad.block (by rw [e]; rfl)
        have h0 : w3.heap.size ≤ ad.block := this.1
        have h1 := this.2
        exact ⟨⟨by omega, by omega⟩, by omega⟩)
  clear hb3 CA CH CV OK V B
  go_wp2_with fail
  go_region_law (go_simp; go_at_call 35; refine CN.out.mono ?_; rintro x w4 ⟨ga, gc, rfl, hb4, ho4⟩; obtain ⟨e0, e1, hR⟩ := FIN.out w4 ga gc hb4 ho4; have R := Lib.hid hR; clear hb4 ho4 hR)
  all_goals
    try go_simp
    go_wp2_with fail
    go_ret2
    exact R.out

set_option maxRecDepth 20000 in
set_option maxHeartbeats 8000000 in
theorem en_none (W : World) {z y : Int} (hy : IntOk y) (h : ¬ (1 ≤ z ∧ z ≤ 16 ∧ 0 ≤ y ∧ y < z)) :
    Calls Try.prog 9 #[.int .i64 z, .int .i64 y] W fun x w' => x = .returned (.tuple #[.pointer none, .int .i64 1]) ∧ Below W.heap.size W w' := by
  by_cases hz : 1 ≤ z ∧ z ≤ 16
  · obtain ⟨n, rfl⟩ : ∃ n : Nat, z = n := ⟨z.toNat, by omega⟩
    have CM := Lib.hid (mnew_yes (W := W) (n := n) (z := (n : Int)) rfl (by omega) (by omega))
    have CA := Lib.hid (fun w => all_any (n : Int) w (by unfold IntOk; omega))
    have CH := Lib.hid (fun w => has_any (allN (n : Int)) y w (allN_lt _) hy)
    have HH := Lib.hid (show hasN (allN (n : Int)) y = false from by rw [has_all (by omega)]; exact decide_eq_false (by omega))
    rw [HH.out] at CH
    clear HH h hz hy
    generalize allN (n : Int) = al at *
    go_enter Try.func9, Try.ntmps9
    go_wp2_with fail
    refine CM.out.mono ?_
    rintro e w1 ⟨sa, sc, rfl, -, hb1⟩
    have B := Lib.hid (hb1.trans ((box_b w1 (.cells #[.int .i64 (n : Int), .slice sa n sc] 37)).mono hb1.size))
    clear hb1
    go_upto_region 2 with fail
    generalize w1.alloc (.cells #[.int .i64 (n : Int), .slice sa n sc] 37) = w2 at *
    go_wp2_with (first
      | (go_at_call 34; refine (CA.out _).mono ?_; rintro x w' ⟨rfl, rfl⟩)
      | (go_at_call 33; refine (CH.out _).mono ?_; rintro x w3 ⟨rfl, hb3⟩))
    replace B := Lib.hid (B.out.trans (hb3.mono B.out.size))
    clear hb3
    go_ret2
    exact ⟨rfl, B.out⟩
  · have CM := Lib.hid (mnew_no (W := W) (z := z) (by omega))
    clear h hz hy
    go_enter Try.func9, Try.ntmps9
    go_wp2_with fail
    refine CM.out.mono ?_
    rintro e w1 ⟨rfl, hb1⟩
    have B := Lib.hid (hb1.trans ((box_b w1 (.cells #[.int .i64 0, .slice none 0 0] 37)).mono hb1.size))
    clear hb1
    go_wp2_with fail
    go_ret2
    exact ⟨rfl, B.out⟩

end Go.Proofs.Ytopnagjbdjicaaa

/-
  full.Read: a square under way, read in place.
-/
namespace Go.Proofs.Ytopnagjbdjicaaa
open Go.RowKit

/-- The result's block is the first that is made; the variable's p6; the reader in pr. -/
structure RqS (W wr : World) (N p6 pr : Nat) (S : Nat → Prop) (s : Option (List Nat)) (sa : Option Addr) (sc : Nat) (K : List Rd) : Prop where
  rd : RdAt wr pr S s
  sq : OwnSq 42 (W.heap.size + 1) wr (.slice sa N sc) K
  len : K.length = N
  c4 : Cel 2 wr W.heap.size (mkC 0 (.slice none 0 0))
  c6 : Cel 2 wr p6 (mkC (N : Int) (.slice sa N sc))
  b : Below W.heap.size W wr
  lo : ∀ g, (Value.slice sa N sc).ownBlock = some g → g < p6
  lo2 : ∀ r ∈ K, ∀ g, bkR r = some g → g < p6
  h6 : W.heap.size < p6
  hpr : p6 < pr
  hS : ∀ k, S k → p6 < k

section
variable {W wr w' : World} {N p6 pr : Nat} {S : Nat → Prop} {s s' : Option (List Nat)} {sa : Option Addr} {sc : Nat} {K : List Rd}
theorem RqS.num (h : RqS W wr N p6 pr S s sa sc K) (hr : RdAt w' pr S s') (hk : Keep (fun k => k = pr) wr w') : RqS W w' N p6 pr S s' sa sc K := by
  have h1 := h.hpr
  have h2 := h.h6
  refine ⟨hr, h.sq.carry (fun k e => ?_) (fun r hr' k e => ?_), h.len, h.c4.keep hk (by omega), h.c6.keep hk (by omega), h.b.trans (hk.below h.b.size (fun k e => by omega)), h.lo, h.lo2, h.h6, h.hpr, h.hS⟩
  · have := h.lo k e
    exact hk.block k (h.sq.out.lt k e).2 (by omega)
  · have := h.lo2 r hr' k e
    exact hk.block k ((h.sq.row r hr').lt k e).2 (by omega)
/-- A place of a row is written. -/
theorem RqS.put (h : RqS W wr N p6 pr S s sa sc K) {i j v : Nat} (hi : i < K.length) (hj : j < K[i].l.length) (hv : v < QM) :
    ∃ g, K[i].a = some ⟨g, 0, none⟩ ∧ (∃ u, wr.cell? ⟨g, j, none⟩ = some u) ∧ wr.frozen? ⟨g, j, none⟩ = false ∧
      RqS W (wr.setCell ⟨g, j, none⟩ (.int .u64 (v : Int))) N p6 pr S s sa sc (K.set i ⟨K[i].a, K[i].c, K[i].l.set j v⟩) := by
  obtain ⟨g, e1, hB, hc, hf, hq⟩ := h.sq.put hi hj hv
  have h1 := h.hpr
  have h2 := h.h6
  have bk : bkR K[i] = some g := by
    obtain ⟨g2, c2, e, -, -⟩ := (h.sq.row _ (List.getElem_mem hi)).form (by omega)
    have e' := e
    unfold rdV at e'
    simp only [Value.slice.injEq] at e'
    rw [e1] at e'
    obtain ⟨e3, -⟩ := e'
    cases e3
    unfold bkR; rw [e]; rfl
  have lg := h.lo2 _ (List.getElem_mem hi) g bk
  have kk : Keep (fun k => k = g) wr (wr.setCell ⟨g, j, none⟩ (.int .u64 (v : Int))) := (Keep.refl _ _).put _ _
  refine ⟨g, e1, ⟨_, hc⟩, hf, h.rd.keep kk (by omega) (fun k hk => by have := h.hS k hk; omega), hq, by rw [List.length_set, h.len], h.c4.keep kk (by omega), h.c6.keep kk (by omega), h.b.trans (kk.below h.b.size (fun k e => by omega)), h.lo, fun r hr => ?_, h.h6, h.hpr, h.hS⟩
  rcases List.mem_or_eq_of_mem_set hr with hr | rfl
  · exact h.lo2 r hr
  · intro g2 e
    refine h.lo2 _ (List.getElem_mem hi) g2 ?_
    unfold bkR rdV at e ⊢
    simpa using e
/-- It is given. -/
theorem RqS.fin {m : List (List Nat)} (h : RqS W wr N p6 pr S s sa sc K) (hm : mOf K = m) :
    (wr.cell? ⟨W.heap.size, 0, none⟩ = some (.int .i64 0) ∧ wr.cell? ⟨W.heap.size, 1, none⟩ = some (.slice none 0 0) ∧ wr.frozen? ⟨W.heap.size, 0, none⟩ = false ∧ wr.frozen? ⟨W.heap.size, 1, none⟩ = false ∧ wr.cell? ⟨p6, 0, none⟩ = some (.int .i64 (N : Int)) ∧ wr.cell? ⟨p6, 1, none⟩ = some (.slice sa N sc)) ∧
    ((wr.setCell ⟨W.heap.size, 0, none⟩ (.int .i64 (N : Int))).setCell ⟨W.heap.size, 1, none⟩ (.slice sa N sc)).cell? ⟨W.heap.size, 0, none⟩ = some (.int .i64 (N : Int)) ∧
    ((wr.setCell ⟨W.heap.size, 0, none⟩ (.int .i64 (N : Int))).setCell ⟨W.heap.size, 1, none⟩ (.slice sa N sc)).cell? ⟨W.heap.size, 1, none⟩ = some (.slice sa N sc) ∧
    SqR (fun _ => False) W N m sa sc ((wr.setCell ⟨W.heap.size, 0, none⟩ (.int .i64 (N : Int))).setCell ⟨W.heap.size, 1, none⟩ (.slice sa N sc)) := by
  have T2 := (h.c4.put 0 (.int .i64 (N : Int))).put 1 (.slice sa N sc)
  have f1 : OffP W.heap.size (.slice sa N sc) K := h.sq.off (Or.inl (Nat.lt_succ_self _))
  have o2 := (h.sq.put_off f1 0 (.int .i64 (N : Int))).put_off f1 1 (.slice sa N sc)
  exact ⟨⟨h.c4.c 0 (by decide), h.c4.c 1 (by decide), h.c4.fz 0, h.c4.fz 1, h.c6.c 0 (by decide), h.c6.c 1 (by decide)⟩, T2.c 0 (by decide), T2.c 1 (by decide), own_sqR (o2.mono (Nat.le_succ _)) h.len hm ((h.b.setCell (Nat.le_refl _) _).setCell (Nat.le_refl _) _)⟩
theorem RqS.bad (h : RqS W wr N p6 pr S s sa sc K) :
    (wr.cell? ⟨W.heap.size, 0, none⟩ = some (.int .i64 0) ∧ wr.cell? ⟨W.heap.size, 1, none⟩ = some (.slice none 0 0) ∧ wr.frozen? ⟨W.heap.size, 0, none⟩ = false ∧ wr.frozen? ⟨W.heap.size, 1, none⟩ = false) ∧
    ((wr.setCell ⟨W.heap.size, 0, none⟩ (.int .i64 0)).setCell ⟨W.heap.size, 1, none⟩ (.slice none 0 0)).cell? ⟨W.heap.size, 0, none⟩ = some (.int .i64 0) ∧
    ((wr.setCell ⟨W.heap.size, 0, none⟩ (.int .i64 0)).setCell ⟨W.heap.size, 1, none⟩ (.slice none 0 0)).cell? ⟨W.heap.size, 1, none⟩ = some (.slice none 0 0) ∧
    Below W.heap.size W ((wr.setCell ⟨W.heap.size, 0, none⟩ (.int .i64 0)).setCell ⟨W.heap.size, 1, none⟩ (.slice none 0 0)) := by
  have T2 := (h.c4.put 0 (.int .i64 0)).put 1 (.slice none 0 0)
  exact ⟨⟨h.c4.c 0 (by decide), h.c4.c 1 (by decide), h.c4.fz 0, h.c4.fz 1⟩, T2.c 0 (by decide), T2.c 1 (by decide), (h.b.setCell (Nat.le_refl _) _).setCell (Nat.le_refl _) _⟩
end

/-! The square so far. -/
def curM (N : Nat) (A : List (List Nat)) : List (List Nat) := A ++ List.replicate (N - A.length) (List.replicate N 0)
def curR (N : Nat) (A : List (List Nat)) (r : List Nat) : List (List Nat) := A ++ (r ++ List.replicate (N - r.length) 0) :: List.replicate (N - (A.length + 1)) (List.replicate N 0)
theorem curR_start {N : Nat} {A : List (List Nat)} (h : A.length < N) : curR N A [] = curM N A := by
  unfold curR curM
  rw [show N - A.length = (N - (A.length + 1)) + 1 by omega, List.replicate_succ]
  simp
theorem curR_end {N : Nat} {A : List (List Nat)} {r : List Nat} (h : r.length = N) : curR N A r = curM N (A ++ [r]) := by
  unfold curR curM
  rw [h, Nat.sub_self, List.length_append]
  simp
theorem curR_row {N : Nat} {A : List (List Nat)} {r : List Nat} {K : List Rd} (h : mOf K = curR N A r) (hi : A.length < K.length) : K[A.length].l = r ++ List.replicate (N - r.length) 0 := by
  rw [← mOf_at hi]
  have : (mOf K)[A.length]'(by rw [mOf_len]; exact hi) = (curR N A r)[A.length]'(by unfold curR; simp) := getElem_congr_coll h
  rw [this]
  unfold curR
  simp
theorem curR_put {N v : Nat} {A : List (List Nat)} {r : List Nat} {K : List Rd} (h : mOf K = curR N A r) (hi : A.length < K.length) (hr : r.length < N) (a : Option Addr) (c : Nat) :
    mOf (K.set A.length ⟨a, c, (K[A.length].l).set r.length v⟩) = curR N A (r ++ [v]) := by
  have e1 : mOf (K.set A.length ⟨a, c, (K[A.length].l).set r.length v⟩) = (mOf K).set A.length ((K[A.length].l).set r.length v) := by simp [mOf, List.map_set]
  rw [e1, curR_row h hi, h]
  unfold curR
  rw [show N - r.length = (N - (r ++ [v]).length) + 1 by simp; omega, List.replicate_succ]
  simp

end Go.Proofs.Ytopnagjbdjicaaa

/-
  full.Read.
-/
namespace Go.Proofs.Ytopnagjbdjicaaa
open Go.RowKit

set_option maxRecDepth 20000 in
set_option maxHeartbeats 8000000 in
theorem read_at {W : World} {ao : Option Addr} {cap len : Nat} {bs : List Nat} {z : Int} (hs : SlAt bV 256 W ao cap bs) (hlen : bs.length = len) (hlm : len ≤ 2000000) {o : Option (List (List Nat))} (ho : readM z bs = o) :
    Calls Try.prog 14 #[.int .i64 z, .slice ao len cap] W (RfPost W z o) := by
  obtain ⟨U, hU⟩ : ∃ U, U = W.alloc (.cells #[.int .i64 0, .slice none 0 0] 37) := ⟨_, rfl⟩
  have hb : Below W.heap.size W U := by rw [hU]; exact box_b W _
  have hsz : U.heap.size = W.heap.size + 1 := by rw [hU]; exact size_one ..
  have T1 : Cel 2 U W.heap.size (mkC 0 (.slice none 0 0)) := by rw [hU]; exact box_new W 0 _ _
  have HU := Lib.hid hU.symm
  have HB := Lib.hid hb
  have HZ := Lib.hid hsz
  have T := Lib.hid T1
  clear hU hb hsz T1
  by_cases hz : 1 ≤ z ∧ z ≤ 16
  · obtain ⟨N, rfl⟩ : ∃ n : Nat, z = n := ⟨z.toNat, by omega⟩
    have hN1 : 1 ≤ N := by omega
    have hN2 : N ≤ 16 := by omega
    rw [readM_yes hN1 hN2] at ho
    have HO := Lib.hid ho
    have HS := Lib.hid hs
    have LM := Lib.hid hlm
    subst hlen
    have CM := Lib.hid (mnew_own (W := U) (n := N) (z := (N : Int)) rfl hN1 hN2)
    clear ho hs hz hlm
    go_enter Try.func14, Try.ntmps14
    go_wp2_with fail
    rw [HU.out]
    go_wp2_with fail
    refine CM.out.mono ?_
    rintro e w1 ⟨sa, sc, K, rfl, hO, hK, hm, hb1⟩
    obtain ⟨w2, hw2⟩ : ∃ w2, w2 = w1.alloc (.cells #[.int .i64 (N : Int), .slice sa N sc] 37) := ⟨_, rfl⟩
    have b2 : Below w1.heap.size w1 w2 := by rw [hw2]; exact box_b _ _
    have c2 : Cel 2 w2 w1.heap.size (mkC (N : Int) (.slice sa N sc)) := by rw [hw2]; exact box_new w1 _ _ _
    have BW1 := HB.out.trans (hb1.mono HB.out.size)
    have BW := BW1.trans (b2.mono BW1.size)
    have CR := Lib.hid (rnew_any w2 bs ao cap (HS.out.below BW) LM.out)
    have NX := Lib.hid (fun (w3 : World) (pr : Nat) (S : Nat → Prop) (hr : RdAt w3 pr S (some bs)) (h3 : Below w2.heap.size w2 w3) (hp : w2.heap.size ≤ pr) (hS : ∀ k, S k → w2.heap.size ≤ k ∧ k < pr) =>
      show RqS W w3 N w1.heap.size pr S (some bs) sa sc K from by
        have s2 : w1.heap.size < w2.heap.size := c2.lt
        have s1 := hb1.size
        have s0 := HZ.out
        exact ⟨hr, by rw [← HZ.out]; exact (hO.below b2).below h3, hK, ((T.out.below hb1).below b2).below h3, c2.below h3, BW.trans (h3.mono BW.size), fun g e => (hO.out.lt g e).2, fun r hr' g e => ((hO.row r hr').lt g e).2, by omega, by omega, fun k hk => by have := hS k hk; omega⟩)
    have HW2 := Lib.hid hw2.symm
    have HM := Lib.hid hm
    clear hO hK hm hb1 b2 c2 BW1 BW CM HU hw2
    go_wp2_with fail
    rw [HW2.out]
    go_wp2_with fail
    refine CR.out.mono ?_
    rintro e w3 ⟨pr, S, rfl, hr3, hb3, hp3, hS3⟩
    have R := Lib.hid (NX.out w3 pr S hr3 hb3 hp3 hS3)
    have d1 : w3.cell? ⟨w1.heap.size, 1, none⟩ = some (.slice sa N sc) := R.out.c6.c 1 (by decide)
    clear hr3 hb3 hp3 hS3 NX CR HW2 HS
    generalize w1.heap.size = p6 at *
    go_wp2_with fail
    clear d1
    have I0 := Lib.hid (show ∃ K, RqS W w3 N p6 pr S (matR N 0 (some bs)).2 sa sc K ∧ mOf K = curM N (matR N 0 (some bs)).1 from ⟨K, R.out, by rw [HM.out]; simp [curM, matR, zerosM]⟩)
    clear R HM
    go_loopw [25] (fun i wr => ∃ (k : Nat) (K : List Rd), k ≤ N ∧ i = .int .i64 (k : Nat) ∧ RqS W wr N p6 pr S (matR N k (some bs)).2 sa sc K ∧ mOf K = curM N (matR N k (some bs)).1) (fun i _ => N - (intOf i).toNat)
    case atStart =>
      obtain ⟨K, h1, h2⟩ := I0.out
      exact ⟨0, K, Nat.zero_le _, rfl, h1, h2⟩
    case round =>
      obtain ⟨k, K, hk, rfl, hR, hM⟩ := hrel
      clear I0
      have ml := matR_len N k (some bs)
      by_cases hlt : k < N
      · have hkK : k < K.length := by rw [hR.len]; exact hlt
        obtain ⟨gs, c9, es, -, hc⟩ := hR.sq.look hkK
        rw [hR.len] at es
        simp only [Value.slice.injEq, true_and] at es
        obtain ⟨rfl, rfl⟩ := es
        have hM2 := hM
        rw [← curR_start (by omega)] at hM2
        have row := curR_row hM2 (by omega)
        simp only [ml] at row
        have rl : K[k].l.length = N := by rw [row]; simp
        rw [rl] at hc
        obtain ⟨g0, e0, -, -, -⟩ := hR.put (i := k) (j := 0) (v := 0) hkK (by omega) (by decide)
        have i0 : (0 : Int) ≤ (k : Int) := by omega
        have i1 : (k : Int) < (N : Int) := by omega
        have c1 : wr.cell? ⟨gs, k, none⟩ = some (.slice (some ⟨g0, 0, none⟩) N K[k].c) := by rw [← e0]; exact hc
        obtain ⟨rc, hrc⟩ : ∃ rc, rc = K[k].c := ⟨_, rfl⟩
        rw [← hrc] at c1
        obtain ⟨sk, hsk⟩ : ∃ sk, sk = (matR N k (some bs)).2 := ⟨_, rfl⟩
        have J0 := Lib.hid (show ∃ K, RqS W wr N p6 pr S (rowR 0 sk).2 (some ⟨gs, 0, none⟩) sc K ∧ mOf K = curR N (matR N k (some bs)).1 (rowR 0 sk).1 ∧ ∃ h : k < K.length, K[k].a = some ⟨g0, 0, none⟩ from
          ⟨K, by rw [hsk]; exact hR, hM2, hkK, e0⟩)
        have HSK := Lib.hid hsk
        have ML := Lib.hid ml
        clear hR hM hM2 row rl hc e0 hsk ml hrc hkK K
        go_wp2_with fail
        clear c1
        go_loopw [31] (fun i wr => ∃ (q : Nat) (K : List Rd), q ≤ N ∧ i = .int .i64 (q : Nat) ∧ RqS W wr N p6 pr S (rowR q sk).2 (some ⟨gs, 0, none⟩) sc K ∧ mOf K = curR N (matR N k (some bs)).1 (rowR q sk).1 ∧ ∃ h : k < K.length, K[k].a = some ⟨g0, 0, none⟩) (fun i _ => N - (intOf i).toNat)
        case atStart =>
          obtain ⟨K, h1, h2⟩ := J0.out
          exact ⟨0, K, Nat.zero_le _, rfl, h1, h2⟩
        case round =>
          obtain ⟨q, K, hq, rfl, hR, hM, hkK, ha⟩ := hrel
          have hvl := rowR_len q sk
          clear J0
          by_cases hlq : q < N
          · have CN := Lib.hid (rnum_top wr pr S _ hR.rd)
            have FIN := Lib.hid (fun (w4 : World) (hr : RdAt w4 pr S (numR 18446744073709551615 (rowR q sk).2).2) (hkp : Keep (fun k => k = pr) wr w4) =>
              show (∃ u, w4.cell? ⟨g0, q, none⟩ = some u) ∧ w4.frozen? ⟨g0, q, none⟩ = false ∧ ∃ K', RqS W (w4.setCell ⟨g0, q, none⟩ (.int .u64 (((numR 18446744073709551615 (rowR q sk).2).1 : Nat) : Int))) N p6 pr S (rowR (q + 1) sk).2 (some ⟨gs, 0, none⟩) sc K' ∧ mOf K' = curR N (matR N k (some bs)).1 (rowR (q + 1) sk).1 ∧ ∃ h : k < K'.length, K'[k].a = some ⟨g0, 0, none⟩ from by
                have h4 := hR.num hr hkp
                have m0 := ML.out
                have rw0 := curR_row hM (by omega)
                simp only [m0] at rw0
                obtain ⟨g, e1, hu, hf, h5⟩ := h4.put (i := k) (j := q) (v := (numR 18446744073709551615 (rowR q sk).2).1) hkK (by rw [rw0]; simp; omega) (numR_lt _ _)
                rw [ha] at e1
                cases e1
                refine ⟨hu, hf, _, h5, ?_, by rw [List.length_set]; exact hkK, by rw [List.getElem_set_self]; exact ha⟩
                have h6 := curR_put (v := (numR 18446744073709551615 (rowR q sk).2).1) hM (by omega) (by omega) K[k].a K[k].c
                simp only [m0, hvl] at h6
                exact h6)
            have j0 : (0 : Int) ≤ (q : Int) := by omega
            have j1 : (q : Int) < (N : Int) := by omega
            clear hR hM hvl ha hkK
            generalize hx9 : (numR 18446744073709551615 (rowR q sk).2).1 = x at *
            clear hx9
            go_wp2_with (go_at_call 44; refine CN.out.mono ?_; rintro e w4 ⟨rfl, hr4, hk4⟩; obtain ⟨⟨u, hu⟩, hf, hR5⟩ := FIN.out w4 hr4 hk4; have R5 := Lib.hid hR5; clear hr4 hk4 hR5)
            go_roundw
            case rel => exact ⟨q + 1, (R5.out).choose, by omega, by go_num, (R5.out).choose_spec⟩
            case measure => simp only [intOf]; omega
          · obtain rfl : q = N := by omega
            have dq : decide ((q : Int) < (q : Int)) = false := decide_eq_false (by omega)
            have R6 := Lib.hid (show ∃ K, RqS W wr q p6 pr S (matR q (k + 1) (some bs)).2 (some ⟨gs, 0, none⟩) sc K ∧ mOf K = curM q (matR q (k + 1) (some bs)).1 from
              ⟨K, by rw [show (matR q (k + 1) (some bs)).2 = (rowR q sk).2 by rw [HSK.out]; rfl]; exact hR, by
                rw [hM, curR_end hvl, HSK.out]; rfl⟩)
            clear hR hM hvl ha hkK
            go_wp2_with fail
            go_roundw
            case rel => exact ⟨k + 1, R6.out.choose, by omega, by go_num, R6.out.choose_spec⟩
            case measure => simp only [intOf]; omega
      · obtain rfl : k = N := by omega
        have dk : decide ((k : Int) < (k : Int)) = false := decide_eq_false (by omega)
        have CE := Lib.hid (rend_any wr pr S _ hR.rd)
        have hM3 : mOf K = (matR k k (some bs)).1 := by rw [hM]; unfold curM; rw [ml, Nat.sub_self]; simp
        obtain ⟨b9, hb9⟩ : ∃ b, b = endR (matR k k (some bs)).2 := ⟨_, rfl⟩
        rw [← hb9] at CE
        have HE := Lib.hid hb9.symm
        clear hb9
        cases b9
        · obtain ⟨⟨x1, x2, x3, x4⟩, y1, y2, hB⟩ := hR.bad
          have R := Lib.hid hB
          clear hR hM hM3 ml hB
          go_wp2_with (go_at_call 45; refine CE.out.mono ?_; rintro e w' ⟨rfl, rfl⟩)
          refine bodyPost_ret (v := .tuple #[.agg #[.int .i64 0, .slice none 0 0], .bool false]) (by simp [results, Try.results14, go_sem, y1, y2]) rfl ?_
          rw [← HO.out, HE.out]
          exact ⟨rfl, R.out⟩
        · obtain ⟨⟨x1, x2, x3, x4, x5, x6⟩, y1, y2, hB⟩ := hR.fin hM3
          have R := Lib.hid hB
          have HL := Lib.hid ml
          clear hR hM hM3 ml hB
          go_wp2_with (go_at_call 45; refine CE.out.mono ?_; rintro e w' ⟨rfl, rfl⟩)
          refine bodyPost_ret (v := .tuple #[.agg #[.int .i64 (k : Int), .slice sa k sc], .bool true]) (by simp [results, Try.results14, go_sem, y1, y2]) rfl ?_
          rw [← HO.out, HE.out]
          exact ⟨sa, sc, by rw [HL.out], by rw [HL.out]; exact R.out⟩
  · rw [readM_no hz] at ho
    subst ho
    have CM := Lib.hid (mnew_no (W := U) (z := z) (by omega))
    clear hz hs hlen hlm
    go_enter Try.func14, Try.ntmps14
    go_wp2_with fail
    rw [HU.out]
    go_wp2_with fail
    refine CM.out.mono ?_
    rintro e w1 ⟨rfl, hb1⟩
    obtain ⟨w2, hw2⟩ : ∃ w2, w2 = w1.alloc (.cells #[.int .i64 0, .slice none 0 0] 37) := ⟨_, rfl⟩
    have b2 : Below w1.heap.size w1 w2 := by rw [hw2]; exact box_b _ _
    have T3 := (T.out.below hb1).below b2
    have x1 := T3.c 0 (by decide)
    have x2 := T3.c 1 (by decide)
    have x3 := T3.fz 0
    have x4 := T3.fz 1
    have T2 := (T3.put 0 (.int .i64 0)).put 1 (.slice none 0 0)
    have y1 : ((w2.setCell ⟨W.heap.size, 0, none⟩ (.int .i64 0)).setCell ⟨W.heap.size, 1, none⟩ (.slice none 0 0)).cell? ⟨W.heap.size, 0, none⟩ = some (.int .i64 0) := T2.c 0 (by decide)
    have y2 : ((w2.setCell ⟨W.heap.size, 0, none⟩ (.int .i64 0)).setCell ⟨W.heap.size, 1, none⟩ (.slice none 0 0)).cell? ⟨W.heap.size, 1, none⟩ = some (.slice none 0 0) := T2.c 1 (by decide)
    have BW1 := HB.out.trans (hb1.mono HB.out.size)
    have R := Lib.hid (((BW1.trans (b2.mono BW1.size)).setCell (p := ⟨W.heap.size, 0, none⟩) (Nat.le_refl _) (.int .i64 0)).setCell (p := ⟨W.heap.size, 1, none⟩) (Nat.le_refl _) (.slice none 0 0))
    have HW2 := Lib.hid hw2.symm
    clear BW1 T2 T3 b2 hw2 hb1 CM HU
    go_upto_region 2 with fail
    rw [HW2.out]
    go_wp2_with fail
    refine bodyPost_ret (v := .tuple #[.agg #[.int .i64 0, .slice none 0 0], .bool false]) (by simp [results, Try.results14, go_sem, y1, y2]) rfl ?_
    exact ⟨rfl, R.out⟩

end Go.Proofs.Ytopnagjbdjicaaa

/-
  full: others, Got, Sent.
-/
namespace Go.Proofs.Ytopnagjbdjicaaa
open Go.RowKit

theorem upM_none {n i : Nat} {m : List (List Nat)} (h : goodM (n : Int) m = true) (hi : i < n) : upM (n : Int) m (i : Int) 0 = m := by
  obtain ⟨n9, e9, -, -, h3, -⟩ := goodM_is h
  have hm : i < m.length := by omega
  have e0 : ∀ k, incL m[i] 0 k = m[i] := fun k => row_ext (incL_length ..) fun j hj => by
    rw [incL_length] at hj
    rw [incL_at, if_pos hj, if_neg (fun h => by have := h.2.1; unfold hasN at this; simp at this)]; rfl
  rw [upM_yes h hi, List.getD, List.getElem?_eq_getElem hm]
  show m.set i (incL m[i] 0 n) = m
  rw [e0, List.set_getElem_self]
/-- A square that a call gave is laid into the result's block. -/
theorem SqR.res {W U w1 : World} {t n cap : Nat} {z : Int} {V : Nat → Value} {m : List (List Nat)} {a : Option Addr} (h : SqR (fun _ => False) U n m a cap w1) (hW : Below W.heap.size W U) (ht : Cel 2 U t V) (hWt : W.heap.size ≤ t) :
    (w1.cell? ⟨t, 0, none⟩ = some (V 0) ∧ w1.cell? ⟨t, 1, none⟩ = some (V 1) ∧ w1.frozen? ⟨t, 0, none⟩ = false ∧ w1.frozen? ⟨t, 1, none⟩ = false) ∧
    ((w1.setCell ⟨t, 0, none⟩ (.int .i64 z)).setCell ⟨t, 1, none⟩ (.slice a n cap)).cell? ⟨t, 0, none⟩ = some (.int .i64 z) ∧
    ((w1.setCell ⟨t, 0, none⟩ (.int .i64 z)).setCell ⟨t, 1, none⟩ (.slice a n cap)).cell? ⟨t, 1, none⟩ = some (.slice a n cap) ∧
    SqR (fun _ => False) W n m a cap ((w1.setCell ⟨t, 0, none⟩ (.int .i64 z)).setCell ⟨t, 1, none⟩ (.slice a n cap)) := by
  obtain ⟨hs, hb⟩ := h
  have T1 : Cel 2 w1 t V := ht.below hb
  have T2 := (T1.put 0 (.int .i64 z)).put 1 (.slice a n cap)
  have nt : ¬ NewA U (fun _ => False) t := fun h => h.elim id (fun h => by have := ht.lt; omega)
  refine ⟨⟨T1.c 0 (by decide), T1.c 1 (by decide), T1.fz 0, T1.fz 1⟩, T2.c 0 (by decide), T2.c 1 (by decide), ((hs.put nt 0 _).put nt 1 _).mono (fun k _ hk => hk.elim (fun h => h.elim) (fun h => Or.inr (Nat.le_trans hW.size h))), ((hW.trans (hb.mono hW.size)).setCell hWt _).setCell hWt _⟩
theorem SqR.drew {U w1 : World} {n cap : Nat} {m : List (List Nat)} {a : Option Addr} (h : SqR (fun _ => False) U.drew n m a cap w1) : SqR (fun _ => False) U n m a cap w1 := ⟨h.1, (drew_below U).trans h.2⟩
section
variable {w : World} {F : Nat → Prop} {p : Nat} {e : En}
set_option maxRecDepth 20000 in
set_option maxHeartbeats 4000000 in
theorem en_oth (h : EnAt w F p e) : Calls Try.prog 36 #[.pointer (some ⟨p, 0, none⟩)] w fun x w' => x = .returned (.int .u64 (othE e.n e.me : Nat)) ∧ Below w.heap.size w w' := by
  obtain ⟨sa, sc, ga, gc, hV⟩ := h
  have ok := hV.ok
  have hn := ok.n2
  have hm := ok.me
  have c0 : w.cell? ⟨p, 0, none⟩ = some (.int .i64 e.me) := hV.c.c 0 (by decide)
  have c1 : w.cell? ⟨p, 1, none⟩ = some (.int .i64 e.n) := hV.c.c 1 (by decide)
  have CA := Lib.hid (fun W => all_any (e.n : Int) W (by unfold IntOk; omega))
  have hneg : bits .andNot .u64 ((allN (e.n : Int) : Nat) : Int) ((bitN (e.me : Int) : Nat) : Int) = ((othE e.n e.me : Nat) : Int) := by
    rw [or_neg_nat _ _ (allN_lt _) (bitN_lt _), bitN_nat (by omega)]
    rfl
  have CO := Lib.hid (of_cell (w := (w.alloc (.cells #[.int .i64 (e.me : Int)] 3)).drew) (b := w.heap.size) (x := (e.me : Int)) (s := bitN (e.me : Int)) (by simp) (by unfold IntOk; omega) rfl)
  have BB := Lib.hid (show Below w.heap.size w (w.alloc (.cells #[.int .i64 (e.me : Int)] 3)).drew from (box_b w _).trans ((drew_below _).mono (by simp)))
  have c0d : w.drew.cell? ⟨p, 0, none⟩ = some (.int .i64 e.me) := c0
  have c1d : w.drew.cell? ⟨p, 1, none⟩ = some (.int .i64 e.n) := c1
  have c1e : (w.alloc (.cells #[.int .i64 (e.me : Int)] 3)).drew.cell? ⟨p, 1, none⟩ = some (.int .i64 e.n) := (hV.c.below (box_b w _)).c 1 (by decide)
  clear hV ok hn hm
  generalize othE e.n e.me = oo at *
  generalize allN (e.n : Int) = al at *
  generalize bitN (e.me : Int) = bt at *
  go_enter Try.func36, Try.ntmps36
  go_wp2_with fail
  go_region_law (first
    | (go_simp; go_at_call 34; refine (CA.out _).mono ?_; rintro x w' ⟨rfl, rfl⟩)
    | (go_simp; go_at_call 11; refine CO.out.mono ?_; rintro x w' ⟨rfl, rfl⟩))
  all_goals
    try go_simp
    go_wp2_with fail
    go_ret
    exact ⟨rfl, BB.out⟩
set_option maxRecDepth 20000 in
set_option maxHeartbeats 4000000 in
theorem en_got (h : EnAt w F p e) {g : List Nat} (hg : e.G = g) :
    Calls Try.prog 16 #[.pointer (some ⟨p, 0, none⟩)] w fun x w' => ∃ a cap, x = .returned (.slice a e.n cap) ∧ SlAt qV QM w' a cap g ∧ Below w.heap.size w w' ∧ ∀ ad, a = some ad → w.heap.size ≤ ad.block := by
  subst hg
  obtain ⟨sa, sc, ga, gc, hV⟩ := h
  have ok := hV.ok
  have hn := ok.n2
  have c3 : w.cell? ⟨p, 3, none⟩ = some (.slice ga e.n gc) := hV.c.c 3 (by decide)
  have CC := Lib.hid (vclone_any hV.g ok.G (by omega))
  have GL := Lib.hid ok.G
  clear hV ok hn
  go_enter Try.func16, Try.ntmps16
  go_wp2_with fail
  refine CC.out.mono ?_
  rintro x w1 ⟨a, cap, rfl, hs, hb, hf, -⟩
  have R := Lib.hid (And.intro hs (And.intro hb hf))
  clear hs hb hf
  go_wp2_with fail
  go_ret
  exact ⟨a, cap, by simp only [GL.out]; rfl, R.out⟩
set_option maxRecDepth 20000 in
set_option maxHeartbeats 4000000 in
theorem en_sent (h : EnAt w F p e) {m : List (List Nat)} (hm : e.S = m) :
    Calls Try.prog 18 #[.pointer (some ⟨p, 0, none⟩)] w fun x w' => ∃ a cap, x = .returned (.agg #[.int .i64 e.n, .slice a e.n cap]) ∧ SqR (fun _ => False) w e.n m a cap w' := by
  subst hm
  obtain ⟨sa, sc, ga, gc, hV⟩ := h
  have ok := hV.ok
  have hn := ok.n2
  obtain ⟨U, hU⟩ : ∃ U, U = w.alloc (.cells #[.int .i64 0, .slice none 0 0] 37) := ⟨_, rfl⟩
  have hb : Below w.heap.size w U := by rw [hU]; exact box_b w _
  have T1 : Cel 2 U w.heap.size (mkC 0 (.slice none 0 0)) := by rw [hU]; exact box_new w 0 _ _
  have V := hV.keep (Keep.ofBelow (F := fun _ => False) hb) (fun _ _ => id)
  have c0 : U.cell? ⟨p, 0, none⟩ = some (.int .i64 e.me) := V.c.c 0 (by decide)
  have c1 : U.cell? ⟨p, 1, none⟩ = some (.int .i64 e.n) := V.c.c 1 (by decide)
  have c2 : U.cell? ⟨p, 2, none⟩ = some (.slice sa e.n sc) := V.c.c 2 (by decide)
  have CU := Lib.hid (mup_new (i := (e.me : Int)) (z := (e.n : Int)) (V.s.below (drew_below U)) (by omega) (fun r hr => by
    obtain ⟨n, e9, -, h2, h3, h4⟩ := goodM_is ok.S
    rw [h4 r hr]; omega) (show 0 < 18446744073709551616 by decide))
  have E0 := Lib.hid (show upM (e.n : Int) e.S (e.me : Int) 0 = e.S from upM_none ok.S ok.me)
  have HU := Lib.hid hU.symm
  have HB := Lib.hid hb
  have T := Lib.hid T1
  clear hV ok hn hU V hb T1
  go_enter Try.func18, Try.ntmps18
  go_wp2_with fail
  rw [HU.out]
  go_wp2_with fail
  go_region_law (go_simp; go_at_call 39; refine CU.out.mono ?_; rintro x w1 ⟨a1, c9, rfl, h1⟩; obtain ⟨⟨x1, x2, x3, x4⟩, y1, y2, h2⟩ := h1.drew.res (z := (e.n : Int)) HB.out T.out (Nat.le_refl _); have R := Lib.hid h2; clear h2 h1)
  all_goals
    try go_simp
    go_wp2_with fail
    refine bodyPost_ret (v := .agg #[.int .i64 (e.n : Int), .slice a1 e.n c9]) (by simp [results, Try.results18, go_sem, y1, y2]) rfl ?_
    exact ⟨_, _, rfl, by have := R.out; rw [E0.out] at this; exact this⟩
end

end Go.Proofs.Ytopnagjbdjicaaa

/-
  full: ready, Can.
-/
namespace Go.Proofs.Ytopnagjbdjicaaa
open Go.RowKit

theorem oth_has {n me : Nat} {f : Int} (hn : n ≤ 16) (hm : me < n) : hasN (othE n me) f = decide (0 ≤ f ∧ f < (n : Int) ∧ f ≠ (me : Int)) := by
  unfold hasN othE
  have e : ∀ i, (18446744073709551615 - 2 ^ me).testBit i = (decide (i < 64) && !decide (me = i)) := fun i => by
    have := Nat.testBit_two_pow_sub_succ (x := 2 ^ me) (n := 64) (pow_word (by omega)) i
    rw [show (2 : Nat) ^ 64 - (2 ^ me + 1) = 18446744073709551615 - 2 ^ me by omega, Nat.testBit_two_pow] at this
    exact this
  rw [Nat.testBit_and, all_test, e, Bool.eq_iff_iff]
  simp only [Bool.and_eq_true, decide_eq_true_eq, Bool.not_eq_true', decide_eq_false_iff_not]
  omega
theorem need_wi {e : En} {m : List (List Nat)} (ok : e.ok) (g : goodM (e.n : Int) m = true) : wiB (colM (e.n : Int) m (e.me : Int)) e.G = needE e m := by
  obtain ⟨n, e9, -, -, h3, h4⟩ := goodM_is g
  rw [colM_yes g ok.me, Bool.eq_iff_iff]
  unfold wiB needE
  simp only [List.all_eq_true, List.mem_range, decide_eq_true_eq, List.length_map]
  have key : ∀ k, k < m.length → atN (m.map fun r => atN r e.me) k = atN (m.getD k []) e.me := fun k hk => by
    rw [atN_of (by simpa using hk), List.getElem_map, List.getD, List.getElem?_eq_getElem hk]; rfl
  constructor
  · intro h k hk
    rw [← key k (by omega)]
    exact h k (by omega)
  · intro h k hk
    rw [key k hk]
    exact h k (by omega)
/-- What ready tells. -/
def RyPost (w : World) (n : Nat) (r : Bool) (m : List (List Nat)) (x : Ending) (w' : World) : Prop := match r with
  | true => ∃ a c, x = .returned (.tuple #[.agg #[.int .i64 (n : Int), .slice a n c], .bool true]) ∧ SqR (fun _ => False) w n m a c w'
  | false => x = .returned (.tuple #[.agg #[.int .i64 0, .slice none 0 0], .bool false]) ∧ Below w.heap.size w w'
/-- Noughts are laid into the result's block. -/
theorem Cel.none0 {w U : World} {t : Nat} {V : Nat → Value} (ht : Cel 2 U t V) (hb : Below w.heap.size w U) (hw : w.heap.size ≤ t) :
    (U.cell? ⟨t, 0, none⟩ = some (V 0) ∧ U.cell? ⟨t, 1, none⟩ = some (V 1) ∧ U.frozen? ⟨t, 0, none⟩ = false ∧ U.frozen? ⟨t, 1, none⟩ = false) ∧
    ((U.setCell ⟨t, 0, none⟩ (.int .i64 0)).setCell ⟨t, 1, none⟩ (.slice none 0 0)).cell? ⟨t, 0, none⟩ = some (.int .i64 0) ∧
    ((U.setCell ⟨t, 0, none⟩ (.int .i64 0)).setCell ⟨t, 1, none⟩ (.slice none 0 0)).cell? ⟨t, 1, none⟩ = some (.slice none 0 0) ∧
    Below w.heap.size w ((U.setCell ⟨t, 0, none⟩ (.int .i64 0)).setCell ⟨t, 1, none⟩ (.slice none 0 0)) := by
  have T2 := (ht.put 0 (.int .i64 0)).put 1 (.slice none 0 0)
  exact ⟨⟨ht.c 0 (by decide), ht.c 1 (by decide), ht.fz 0, ht.fz 1⟩, T2.c 0 (by decide), T2.c 1 (by decide), (hb.setCell hw _).setCell hw _⟩

set_option maxRecDepth 20000 in
set_option maxHeartbeats 16000000 in
theorem en_ready {w : World} {F : Nat → Prop} {p : Nat} {e : En} {f : Int} {ao : Option Addr} {cap len : Nat} {bs : List Nat} (h : EnAt w F p e) (hs : SlAt bV 256 w ao cap bs) (hlen : bs.length = len) (hlm : len ≤ 2000000) (hf : IntOk f) {r : Bool} (hr : canE e f bs = r) :
    Calls Try.prog 40 #[.pointer (some ⟨p, 0, none⟩), .int .i64 f, .slice ao len cap] w (RyPost w e.n r ((readM (e.n : Int) bs).getD [])) := by
  obtain ⟨sa, sc, ga, gc, hV⟩ := h
  obtain ⟨o, ho⟩ : ∃ o, readM (e.n : Int) bs = o := ⟨_, rfl⟩
  rw [ho]
  obtain ⟨U, hU⟩ : ∃ U, U = w.alloc (.cells #[.int .i64 0, .slice none 0 0] 37) := ⟨_, rfl⟩
  have hb : Below w.heap.size w U := by rw [hU]; exact box_b w _
  have T1 : Cel 2 U w.heap.size (mkC 0 (.slice none 0 0)) := by rw [hU]; exact box_new w 0 _ _
  have V := Lib.hid (hV.keep (Keep.ofBelow (F := fun _ => False) hb) (fun _ _ => id))
  have c1 : U.cell? ⟨p, 1, none⟩ = some (.int .i64 e.n) := V.out.c.c 1 (by decide)
  have CR := Lib.hid (read_at (hs.below hb) hlen hlm ho)
  have ok := Lib.hid hV.ok
  have HO := Lib.hid ho
  have HR := Lib.hid hr
  have HF := Lib.hid hf
  have HU := Lib.hid hU.symm
  have HB := Lib.hid hb
  have T := Lib.hid T1
  have HH := Lib.hid (oth_has (f := f) hV.ok.n2 hV.ok.me)
  have CH := Lib.hid (fun W => has_any (othE e.n e.me) f W (othE_lt _ _) hf)
  rw [HH.out] at CH
  clear hV ho hU hb T1 hs hlen hlm hf hr HH
  go_enter Try.func40, Try.ntmps40
  go_upto_region 1 with fail
  rw [HU.out]
  go_wp2_with fail
  refine CR.out.mono ?_
  clear CR c1 HU
  cases o with
  | none =>
    rintro x w1 ⟨rfl, hb1⟩
    obtain ⟨w2, hw2⟩ : ∃ w2, w2 = w1.alloc (.cells #[.int .i64 0, .slice none 0 0] 37) := ⟨_, rfl⟩
    have b2 : Below w1.heap.size w1 w2 := by rw [hw2]; exact box_b _ _
    have HW2 := Lib.hid hw2.symm
    have B2 := Lib.hid (hb1.trans (b2.mono hb1.size))
    obtain rfl : r = false := by rw [← HR.out]; exact canE_none HO.out
    have BW := Lib.hid (HB.out.trans (B2.out.mono HB.out.size))
    have CX := Lib.hid (show ∀ d, _ from fun d => Cel.none0 (((T.out.below B2.out).below (drewN_b (Below.refl _ w2) d))) (BW.out.trans (drewN_b (Below.refl _ w2) d |>.mono BW.out.size)) (Nat.le_refl _))
    clear hb1 b2 hw2
    go_upto_region 2 with fail
    rw [HW2.out]
    clear HW2
    have x1 := fun d => (CX.out d).1.1
    have x2 := fun d => (CX.out d).1.2.1
    have x3 := fun d => (CX.out d).1.2.2.1
    have x4 := fun d => (CX.out d).1.2.2.2
    have y1 := fun d => (CX.out d).2.1
    have y2 := fun d => (CX.out d).2.2.1
    go_quiet (fail)
    go_wp2_with fail
    refine bodyPost_ret (v := .tuple #[.agg #[.int .i64 0, .slice none 0 0], .bool false]) (by simp [results, Try.results40, go_sem, y1, y2]) rfl ?_
    exact ⟨rfl, (CX.out _).2.2.2⟩
  | some m =>
    rintro x w1 ⟨ma, mc, rfl, hS, hb1⟩
    have ML := Lib.hid (show m.length = e.n from by obtain ⟨n, e9, -, -, h3, -⟩ := goodM_is (readM_good HO.out).1; omega)
    rw [ML.out] at hS ⊢
    have GM := Lib.hid (readM_good HO.out).1
    obtain ⟨w2, hw2⟩ : ∃ w2, w2 = w1.alloc (.cells #[.int .i64 e.n, .slice ma e.n mc] 37) := ⟨_, rfl⟩
    have b2 : Below w1.heap.size w1 w2 := by rw [hw2]; exact box_b _ _
    have q8 : Cel 2 w2 w1.heap.size (mkC (e.n : Int) (.slice ma e.n mc)) := by rw [hw2]; exact box_new w1 _ _ _
    have HW2 := Lib.hid hw2.symm
    have M2 := Lib.hid (hS.below b2)
    have B2 := Lib.hid (hb1.trans (b2.mono hb1.size))
    have V2 := Lib.hid (V.out.keep (Keep.ofBelow (F := fun _ => False) B2.out) (fun _ _ => id))
    have BW := Lib.hid (HB.out.trans (B2.out.mono HB.out.size))
    have T2 := Lib.hid (T.out.below B2.out)
    have q0 : w2.cell? ⟨w1.heap.size, 0, none⟩ = some (.int .i64 e.n) := q8.c 0 (by decide)
    have q1 : w2.cell? ⟨w1.heap.size, 1, none⟩ = some (.slice ma e.n mc) := q8.c 1 (by decide)
    have b0 : w2.cell? ⟨p, 0, none⟩ = some (.int .i64 e.me) := V2.out.c.c 0 (by decide)
    have b3 : w2.cell? ⟨p, 3, none⟩ = some (.slice ga e.n gc) := V2.out.c.c 3 (by decide)
    have HR2 := Lib.hid (show r = (decide (0 ≤ f ∧ f < (e.n : Int) ∧ f ≠ (e.me : Int)) && needE e m) from by rw [← HR.out]; exact canE_some HO.out)
    clear hb1 b2 hw2 q8 hS HR
    by_cases hfr : 0 ≤ f ∧ f < (e.n : Int) ∧ f ≠ (e.me : Int)
    · rw [decide_eq_true hfr] at CH HR2
      obtain ⟨col, hcol⟩ : ∃ col, colM (e.n : Int) m (e.me : Int) = col := ⟨_, rfl⟩
      have HC := Lib.hid hcol
      have LC := Lib.hid (show col.length = e.n from by rw [← hcol, colM_yes GM.out ok.out.me, List.length_map]; exact ML.out)
      have LG := Lib.hid ok.out.G
      obtain ⟨cz, hcz⟩ : ∃ cz, cmpZ col e.G = cz := ⟨_, rfl⟩
      have HZ := Lib.hid hcz
      obtain ⟨b, hb⟩ : ∃ b, b = needE e m := ⟨_, rfl⟩
      have d9 : decide (cz > 0) = !b := by rw [← hcz, cmp_gt, ← hcol, need_wi ok.out GM.out, hb]
      rw [← hb, Bool.true_and] at HR2
      obtain rfl : r = b := HR2.out
      clear hcol hcz hb hfr HR2
      go_upto_region 2 with fail
      rw [HW2.out]
      clear HW2
      generalize w1.heap.size = p8 at *
      refine wp_region_noPanic ?_
      refine wp_region_held_drew (S := (fun w' => w'.cell? ⟨p, 0, none⟩ = some (.int .i64 e.me) ∧ w'.cell? ⟨p, 3, none⟩ = some (.slice ga e.n gc) ∧ w'.cell? ⟨p8, 0, none⟩ = some (.int .i64 e.n) ∧ w'.cell? ⟨p8, 1, none⟩ = some (.slice ma e.n mc) ∧ Hid (Below w2.heap.size w2 w'))) (by kernel_rfl) ?_ (fun hHeld => ?_)
      · exact ⟨b0, b3, q0, q1, Lib.hid (drew_below w2)⟩
      refine wpAnyH_take (i := 0) (oi := { dst := some 20, op := Op.move (Operand.tmp 9), type := 4, pos := "full.go:49", after := #[], guard := none }) (v := ?_) rfl (by kernel_rfl) (by kernel_rfl) (by kernel_rfl) (fun _ _ _ h => h) (Or.inl ⟨by rfl, ?_⟩) (by assumption) ?_
      rotate_left
      · (intro w hSw; (try dsimp only at hSw); go_simp; try with_reducible rfl)
      ((try simp only [Act.put]); (try simp only [List.setIfInBounds_toArray]); (try simp only [List.set_cons_succ]); (try simp only [List.set_cons_zero]))
      refine wpAnyH_take (i := 1) (oi := { dst := some 21, op := Op.unOp UnOp.not 4 (Operand.tmp 20), type := 4, pos := "full.go:49", after := #[{ on := 0, ground := Ground.data }], guard := none }) (v := ?_) rfl (by kernel_rfl) (by kernel_rfl) (by kernel_rfl) (fun _ _ _ h => h) (Or.inl ⟨by rfl, ?_⟩) (by assumption) ?_
      rotate_left
      · (intro w hSw; (try dsimp only at hSw); go_simp; try with_reducible rfl)
      ((try simp only [Act.put]); (try simp only [List.setIfInBounds_toArray]); (try simp only [List.set_cons_succ]); (try simp only [List.set_cons_zero]))
      refine wpAnyH_take (i := 2) (oi := { dst := some 22, op := Op.move (Operand.tmp 21), type := 4, pos := "full.go:49", after := #[{ on := 1, ground := Ground.data }], guard := none }) (v := ?_) rfl (by kernel_rfl) (by kernel_rfl) (by kernel_rfl) (fun _ _ _ h => h) (Or.inl ⟨by rfl, ?_⟩) (by assumption) ?_
      rotate_left
      · (intro w hSw; (try dsimp only at hSw); go_simp; try with_reducible rfl)
      ((try simp only [Act.put]); (try simp only [List.setIfInBounds_toArray]); (try simp only [List.set_cons_succ]); (try simp only [List.set_cons_zero]))
      refine wpAnyH_take (i := 3) (oi := { dst := some 23, op := Op.move (Operand.tmp 0), type := 23, pos := "full.go:49", after := #[{ on := 2, ground := Ground.guard }], guard := some (2, false) }) (v := ?_) rfl (by kernel_rfl) (by kernel_rfl) (by kernel_rfl) (fun _ _ _ h => h) (Or.inl ⟨by rfl, ?_⟩) (by assumption) ?_
      rotate_left
      · (intro w hSw; (try dsimp only at hSw); go_simp; try with_reducible rfl)
      ((try simp only [Act.put]); (try simp only [List.setIfInBounds_toArray]); (try simp only [List.set_cons_succ]); (try simp only [List.set_cons_zero]))
      refine wpAnyH_take (i := 5) (oi := { dst := some 25, op := Op.move (Operand.tmp 1), type := 3, pos := "full.go:49", after := #[{ on := 2, ground := Ground.guard }], guard := some (2, false) }) (v := ?_) rfl (by kernel_rfl) (by kernel_rfl) (by kernel_rfl) (fun _ _ _ h => h) (Or.inl ⟨by rfl, ?_⟩) (by assumption) ?_
      rotate_left
      · (intro w hSw; (try dsimp only at hSw); go_simp; try with_reducible rfl)
      ((try simp only [Act.put]); (try simp only [List.setIfInBounds_toArray]); (try simp only [List.set_cons_succ]); (try simp only [List.set_cons_zero]))
      refine wpAnyH_ready (rs := [4]) (by kernel_rfl) (by simp) ?_
      refine AllReadyH.cons (o := { dst := some 24, op := Op.call { callee := Callee.value (Operand.func 36), args := #[Operand.tmp 23], argTypes := #[23] }, type := 30, pos := "full.go:49", after := #[{ on := 3, ground := Ground.data }, { on := 2, ground := Ground.chain }, { on := 2, ground := Ground.guard }], guard := some (2, false) }) rfl (fun K hK => ?_) AllReadyH.nil
      go_simp
      refine (en_oth (p := p) (e := e) ⟨_, _, _, _, V2.out.keep (Keep.ofBelow (F := fun _ => False) (Hid.out hHeld.2.2.2.2)) (fun _ _ => id)⟩).mono ?_
      rintro x w3 ⟨rfl, hb⟩
      try go_wp2_with fail
      refine hK.out _ _ ?_ (fun hNew => ?_)
      · first | exact hHeld | exact ⟨cell_go hHeld.1 hb, cell_go hHeld.2.1 hb, cell_go hHeld.2.2.1 hb, cell_go hHeld.2.2.2.1 hb, Lib.hid ((Hid.out hHeld.2.2.2.2).trans (hb.mono (Hid.out hHeld.2.2.2.2).size))⟩
      clear hK K
      replace hHeld := hNew
      clear hNew
      ((try simp only [Act.put]); (try simp only [List.setIfInBounds_toArray]); (try simp only [List.set_cons_succ]); (try simp only [List.set_cons_zero]))
      refine wpAnyH_ready (rs := [6]) (by kernel_rfl) (by simp) ?_
      refine AllReadyH.cons (o := { dst := some 26, op := Op.call { callee := Callee.value (Operand.func 33), args := #[Operand.tmp 24, Operand.tmp 25], argTypes := #[30, 3] }, type := 4, pos := "full.go:49", after := #[{ on := 4, ground := Ground.data }, { on := 5, ground := Ground.data }, { on := 4, ground := Ground.chain }, { on := 2, ground := Ground.guard }], guard := some (2, false) }) rfl (fun K hK => ?_) AllReadyH.nil
      go_simp
      refine (CH.out _).mono ?_
      rintro x w4 ⟨rfl, hb⟩
      try go_wp2_with fail
      refine hK.out _ _ ?_ (fun hNew => ?_)
      · first | exact hHeld | exact ⟨cell_go hHeld.1 hb, cell_go hHeld.2.1 hb, cell_go hHeld.2.2.1 hb, cell_go hHeld.2.2.2.1 hb, Lib.hid ((Hid.out hHeld.2.2.2.2).trans (hb.mono (Hid.out hHeld.2.2.2.2).size))⟩
      clear hK K
      replace hHeld := hNew
      clear hNew
      ((try simp only [Act.put]); (try simp only [List.setIfInBounds_toArray]); (try simp only [List.set_cons_succ]); (try simp only [List.set_cons_zero]))
      refine wpAnyH_take (i := 7) (oi := { dst := some 27, op := Op.unOp UnOp.not 4 (Operand.tmp 26), type := 4, pos := "full.go:49", after := #[{ on := 6, ground := Ground.data }, { on := 2, ground := Ground.guard }], guard := some (2, false) }) (v := ?_) rfl (by kernel_rfl) (by kernel_rfl) (by kernel_rfl) (fun _ _ _ h => h) (Or.inl ⟨by rfl, ?_⟩) (by assumption) ?_
      rotate_left
      · (intro w hSw; (try dsimp only at hSw); go_simp; try with_reducible rfl)
      ((try simp only [Act.put]); (try simp only [List.setIfInBounds_toArray]); (try simp only [List.set_cons_succ]); (try simp only [List.set_cons_zero]))
      refine wpAnyH_take (i := 8) (oi := { dst := some 28, op := Op.pick (Operand.tmp 22) (Operand.const (Value.bool true)) (Operand.tmp 27), type := 4, pos := "full.go:49", after := #[{ on := 2, ground := Ground.data }, { on := 7, ground := Ground.data }], guard := none }) (v := ?_) rfl (by kernel_rfl) (by kernel_rfl) (by kernel_rfl) (fun _ _ _ h => h) (Or.inl ⟨by rfl, ?_⟩) (by assumption) ?_
      rotate_left
      · (intro w hSw; (try dsimp only at hSw); go_simp; try with_reducible rfl)
      ((try simp only [Act.put]); (try simp only [List.setIfInBounds_toArray]); (try simp only [List.set_cons_succ]); (try simp only [List.set_cons_zero]))
      refine wpAnyH_take (i := 9) (oi := { dst := some 29, op := Op.move (Operand.tmp 28), type := 4, pos := "full.go:49", after := #[{ on := 8, ground := Ground.data }, { on := 6, ground := Ground.chain }], guard := none }) (v := ?_) rfl (by kernel_rfl) (by kernel_rfl) (by kernel_rfl) (fun _ _ _ h => h) (Or.inl ⟨by rfl, ?_⟩) (by assumption) ?_
      rotate_left
      · (intro w hSw; (try dsimp only at hSw); go_simp; try with_reducible rfl)
      ((try simp only [Act.put]); (try simp only [List.setIfInBounds_toArray]); (try simp only [List.set_cons_succ]); (try simp only [List.set_cons_zero]))
      refine wpAnyH_take (i := 10) (oi := { dst := some 30, op := Op.load 37 (Operand.tmp 8), type := 37, pos := "full.go:49", after := #[{ on := 9, ground := Ground.guard }], guard := some (9, false) }) (v := ?_) rfl (by kernel_rfl) (by kernel_rfl) (by kernel_rfl) (fun _ _ _ h => h) (Or.inl ⟨by rfl, ?_⟩) (by assumption) ?_
      rotate_left
      · (intro w hSw; (try dsimp only at hSw); go_simp; try with_reducible rfl)
      ((try simp only [Act.put]); (try simp only [List.setIfInBounds_toArray]); (try simp only [List.set_cons_succ]); (try simp only [List.set_cons_zero]))
      refine wpAnyH_take (i := 11) (oi := { dst := some 31, op := Op.move (Operand.tmp 0), type := 23, pos := "full.go:49", after := #[{ on := 9, ground := Ground.guard }], guard := some (9, false) }) (v := ?_) rfl (by kernel_rfl) (by kernel_rfl) (by kernel_rfl) (fun _ _ _ h => h) (Or.inl ⟨by rfl, ?_⟩) (by assumption) ?_
      rotate_left
      · (intro w hSw; (try dsimp only at hSw); go_simp; try with_reducible rfl)
      ((try simp only [Act.put]); (try simp only [List.setIfInBounds_toArray]); (try simp only [List.set_cons_succ]); (try simp only [List.set_cons_zero]))
      refine wpAnyH_take (i := 12) (oi := { dst := some 32, op := Op.nilCheck (Operand.tmp 31), type := 0, pos := "full.go:49", after := #[{ on := 11, ground := Ground.data }, { on := 9, ground := Ground.guard }], guard := some (9, false) }) (v := ?_) rfl (by kernel_rfl) (by kernel_rfl) (by kernel_rfl) (fun _ _ _ h => h) (Or.inl ⟨by rfl, ?_⟩) (by assumption) ?_
      rotate_left
      · (intro w hSw; (try dsimp only at hSw); go_simp; try with_reducible rfl)
      ((try simp only [Act.put]); (try simp only [List.setIfInBounds_toArray]); (try simp only [List.set_cons_succ]); (try simp only [List.set_cons_zero]))
      refine wpAnyH_take (i := 13) (oi := { dst := some 33, op := Op.fieldAddr 77 (Operand.tmp 32) 0, type := 0, pos := "full.go:49", after := #[{ on := 12, ground := Ground.data }, { on := 9, ground := Ground.guard }], guard := some (9, false) }) (v := ?_) rfl (by kernel_rfl) (by kernel_rfl) (by kernel_rfl) (fun _ _ _ h => h) (Or.inl ⟨by rfl, ?_⟩) (by assumption) ?_
      rotate_left
      · (intro w hSw; (try dsimp only at hSw); go_simp; try with_reducible rfl)
      ((try simp only [Act.put]); (try simp only [List.setIfInBounds_toArray]); (try simp only [List.set_cons_succ]); (try simp only [List.set_cons_zero]))
      refine wpAnyH_take (i := 14) (oi := { dst := some 34, op := Op.load 3 (Operand.tmp 33), type := 3, pos := "full.go:49", after := #[{ on := 13, ground := Ground.data }, { on := 9, ground := Ground.guard }], guard := some (9, false) }) (v := ?_) rfl (by kernel_rfl) (by kernel_rfl) (by kernel_rfl) (fun _ _ _ h => h) (Or.inl ⟨by rfl, ?_⟩) (by assumption) ?_
      rotate_left
      · (intro w hSw; (try dsimp only at hSw); go_simp; try with_reducible rfl)
      ((try simp only [Act.put]); (try simp only [List.setIfInBounds_toArray]); (try simp only [List.set_cons_succ]); (try simp only [List.set_cons_zero]))
      refine wpAnyH_take (i := 16) (oi := { dst := some 36, op := Op.move (Operand.tmp 0), type := 23, pos := "full.go:49", after := #[{ on := 9, ground := Ground.guard }], guard := some (9, false) }) (v := ?_) rfl (by kernel_rfl) (by kernel_rfl) (by kernel_rfl) (fun _ _ _ h => h) (Or.inl ⟨by rfl, ?_⟩) (by assumption) ?_
      rotate_left
      · (intro w hSw; (try dsimp only at hSw); go_simp; try with_reducible rfl)
      ((try simp only [Act.put]); (try simp only [List.setIfInBounds_toArray]); (try simp only [List.set_cons_succ]); (try simp only [List.set_cons_zero]))
      refine wpAnyH_take (i := 17) (oi := { dst := some 37, op := Op.nilCheck (Operand.tmp 36), type := 0, pos := "full.go:49", after := #[{ on := 16, ground := Ground.data }, { on := 9, ground := Ground.guard }], guard := some (9, false) }) (v := ?_) rfl (by kernel_rfl) (by kernel_rfl) (by kernel_rfl) (fun _ _ _ h => h) (Or.inl ⟨by rfl, ?_⟩) (by assumption) ?_
      rotate_left
      · (intro w hSw; (try dsimp only at hSw); go_simp; try with_reducible rfl)
      ((try simp only [Act.put]); (try simp only [List.setIfInBounds_toArray]); (try simp only [List.set_cons_succ]); (try simp only [List.set_cons_zero]))
      refine wpAnyH_take (i := 18) (oi := { dst := some 38, op := Op.fieldAddr 77 (Operand.tmp 37) 2, type := 0, pos := "full.go:49", after := #[{ on := 17, ground := Ground.data }, { on := 9, ground := Ground.guard }], guard := some (9, false) }) (v := ?_) rfl (by kernel_rfl) (by kernel_rfl) (by kernel_rfl) (fun _ _ _ h => h) (Or.inl ⟨by rfl, ?_⟩) (by assumption) ?_
      rotate_left
      · (intro w hSw; (try dsimp only at hSw); go_simp; try with_reducible rfl)
      ((try simp only [Act.put]); (try simp only [List.setIfInBounds_toArray]); (try simp only [List.set_cons_succ]); (try simp only [List.set_cons_zero]))
      refine wpAnyH_take (i := 19) (oi := { dst := some 39, op := Op.load 42 (Operand.tmp 38), type := 42, pos := "full.go:49", after := #[{ on := 18, ground := Ground.data }, { on := 9, ground := Ground.guard }], guard := some (9, false) }) (v := ?_) rfl (by kernel_rfl) (by kernel_rfl) (by kernel_rfl) (fun _ _ _ h => h) (Or.inl ⟨by rfl, ?_⟩) (by assumption) ?_
      rotate_left
      · (intro w hSw; (try dsimp only at hSw); go_simp; try with_reducible rfl)
      ((try simp only [Act.put]); (try simp only [List.setIfInBounds_toArray]); (try simp only [List.set_cons_succ]); (try simp only [List.set_cons_zero]))
      refine wpAnyH_ready (rs := [15]) (by kernel_rfl) (by simp) ?_
      refine AllReadyH.cons (o := { dst := some 35, op := Op.call { callee := Callee.value (Operand.func 67), args := #[Operand.tmp 30, Operand.tmp 34], argTypes := #[37, 3] }, type := 42, pos := "full.go:49", after := #[{ on := 10, ground := Ground.data }, { on := 14, ground := Ground.data }, { on := 9, ground := Ground.chain }, { on := 9, ground := Ground.guard }], guard := some (9, false) }) rfl (fun K hK => ?_) AllReadyH.nil
      go_simp
      refine (mcol_at (z := (e.n : Int)) (j := (e.me : Int)) (M2.out.below (Hid.out hHeld.2.2.2.2)) HC.out LC.out).mono ?_
      rintro x w5 ⟨ca, cc, rfl, hcs, hb⟩
      have X5 := Lib.hid hcs
      clear hcs
      try go_wp2_with fail
      refine hK.out _ _ ?_ (fun hNew => ?_)
      · first | exact hHeld | exact ⟨cell_go hHeld.1 hb, cell_go hHeld.2.1 hb, cell_go hHeld.2.2.1 hb, cell_go hHeld.2.2.2.1 hb, Lib.hid ((Hid.out hHeld.2.2.2.2).trans (hb.mono (Hid.out hHeld.2.2.2.2).size))⟩
      clear hK K
      replace hHeld := hNew
      clear hNew
      ((try simp only [Act.put]); (try simp only [List.setIfInBounds_toArray]); (try simp only [List.set_cons_succ]); (try simp only [List.set_cons_zero]))
      refine wpAnyH_ready (rs := [20]) (by kernel_rfl) (by simp) ?_
      refine AllReadyH.cons (o := { dst := some 40, op := Op.call { callee := Callee.value (Operand.func 62), args := #[Operand.tmp 35, Operand.tmp 39], argTypes := #[42, 42] }, type := 3, pos := "full.go:49", after := #[{ on := 15, ground := Ground.data }, { on := 19, ground := Ground.data }, { on := 15, ground := Ground.chain }, { on := 9, ground := Ground.guard }], guard := some (9, false) }) rfl (fun K hK => ?_) AllReadyH.nil
      go_simp
      refine (vcmp_any X5.out (V2.out.g.below (Hid.out hHeld.2.2.2.2)) LC.out LG.out HZ.out).mono ?_
      rintro x w6 ⟨rfl, rfl⟩
      have hb := Below.refl 0 w2
      try go_wp2_with fail
      refine hK.out _ _ ?_ (fun hNew => ?_)
      · first | exact hHeld | exact ⟨cell_go hHeld.1 hb, cell_go hHeld.2.1 hb, cell_go hHeld.2.2.1 hb, cell_go hHeld.2.2.2.1 hb, Lib.hid ((Hid.out hHeld.2.2.2.2).trans (hb.mono (Hid.out hHeld.2.2.2.2).size))⟩
      clear hK K
      replace hHeld := hNew
      clear hNew
      ((try simp only [Act.put]); (try simp only [List.setIfInBounds_toArray]); (try simp only [List.set_cons_succ]); (try simp only [List.set_cons_zero]))
      refine wpAnyH_take (i := 21) (oi := { dst := some 41, op := Op.binOp BinOp.gtr 3 (Operand.tmp 40) (Operand.const (Value.int IntKind.i64 0)) 3, type := 4, pos := "full.go:49", after := #[{ on := 20, ground := Ground.data }, { on := 9, ground := Ground.guard }], guard := some (9, false) }) (v := ?_) rfl (by kernel_rfl) (by kernel_rfl) (by kernel_rfl) (fun _ _ _ h => h) (Or.inl ⟨by rfl, ?_⟩) (by assumption) ?_
      rotate_left
      · (intro w hSw; (try dsimp only at hSw); go_simp; try with_reducible rfl)
      ((try simp only [Act.put]); (try simp only [List.setIfInBounds_toArray]); (try simp only [List.set_cons_succ]); (try simp only [List.set_cons_zero]))
      refine wpAnyH_take (i := 22) (oi := { dst := some 42, op := Op.pick (Operand.tmp 29) (Operand.const (Value.bool true)) (Operand.tmp 41), type := 4, pos := "full.go:49", after := #[{ on := 9, ground := Ground.data }, { on := 21, ground := Ground.data }], guard := none }) (v := ?_) rfl (by kernel_rfl) (by kernel_rfl) (by kernel_rfl) (fun _ _ _ h => h) (Or.inl ⟨by rfl, ?_⟩) (by assumption) ?_
      rotate_left
      · (intro w hSw; (try dsimp only at hSw); go_simp; try with_reducible rfl)
      ((try simp only [Act.put]); (try simp only [List.setIfInBounds_toArray]); (try simp only [List.set_cons_succ]); (try simp only [List.set_cons_zero]))
      refine wpAnyH_done (by kernel_rfl) ?_ _
      refine NoPanic.normal ?_
      skip
      cases r
      · replace d9 : decide (cz > 0) = true := d9
        obtain ⟨⟨x1, x2, x3, x4⟩, y1, y2, hB⟩ := Cel.none0 (T2.out.below (Hid.out hHeld.2.2.2.2)) (BW.out.trans ((Hid.out hHeld.2.2.2.2).mono BW.out.size)) (Nat.le_refl _)
        have R := Lib.hid hB
        clear hHeld hB
        go_wp2_with fail
        refine bodyPost_ret (v := .tuple #[.agg #[.int .i64 0, .slice none 0 0], .bool false]) (by simp [results, Try.results40, go_sem, y1, y2]) rfl ?_
        exact ⟨rfl, R.out⟩
      · replace d9 : decide (cz > 0) = false := d9
        obtain ⟨⟨x1, x2, x3, x4⟩, y1, y2, hB⟩ := SqR.res (z := (e.n : Int)) ⟨M2.out.below (Hid.out hHeld.2.2.2.2), B2.out.trans ((Hid.out hHeld.2.2.2.2).mono B2.out.size)⟩ HB.out T.out (Nat.le_refl _)
        have z0 := hHeld.2.2.1
        have z1 := hHeld.2.2.2.1
        have R := Lib.hid hB
        clear hHeld hB
        go_wp2_with fail
        refine bodyPost_ret (v := .tuple #[.agg #[.int .i64 (e.n : Int), .slice ma e.n mc], .bool true]) (by simp [results, Try.results40, go_sem, y1, y2]) rfl ?_
        exact ⟨_, _, rfl, R.out⟩
    · rw [decide_eq_false hfr] at CH HR2
      obtain rfl : r = false := HR2.out
      clear hfr HR2
      go_upto_region 2 with fail
      rw [HW2.out]
      clear HW2
      generalize w1.heap.size = p8 at *
      refine wp_region_noPanic ?_
      refine wp_region_held_drew (S := (fun w' => w'.cell? ⟨p, 0, none⟩ = some (.int .i64 e.me) ∧ w'.cell? ⟨p, 3, none⟩ = some (.slice ga e.n gc) ∧ w'.cell? ⟨p8, 0, none⟩ = some (.int .i64 e.n) ∧ w'.cell? ⟨p8, 1, none⟩ = some (.slice ma e.n mc) ∧ Hid (Below w2.heap.size w2 w'))) (by kernel_rfl) ?_ (fun hHeld => ?_)
      · exact ⟨b0, b3, q0, q1, Lib.hid (drew_below w2)⟩
      refine wpAnyH_take (i := 0) (oi := { dst := some 20, op := Op.move (Operand.tmp 9), type := 4, pos := "full.go:49", after := #[], guard := none }) (v := ?_) rfl (by kernel_rfl) (by kernel_rfl) (by kernel_rfl) (fun _ _ _ h => h) (Or.inl ⟨by rfl, ?_⟩) (by assumption) ?_
      rotate_left
      · (intro w hSw; (try dsimp only at hSw); go_simp; try with_reducible rfl)
      ((try simp only [Act.put]); (try simp only [List.setIfInBounds_toArray]); (try simp only [List.set_cons_succ]); (try simp only [List.set_cons_zero]))
      refine wpAnyH_take (i := 1) (oi := { dst := some 21, op := Op.unOp UnOp.not 4 (Operand.tmp 20), type := 4, pos := "full.go:49", after := #[{ on := 0, ground := Ground.data }], guard := none }) (v := ?_) rfl (by kernel_rfl) (by kernel_rfl) (by kernel_rfl) (fun _ _ _ h => h) (Or.inl ⟨by rfl, ?_⟩) (by assumption) ?_
      rotate_left
      · (intro w hSw; (try dsimp only at hSw); go_simp; try with_reducible rfl)
      ((try simp only [Act.put]); (try simp only [List.setIfInBounds_toArray]); (try simp only [List.set_cons_succ]); (try simp only [List.set_cons_zero]))
      refine wpAnyH_take (i := 2) (oi := { dst := some 22, op := Op.move (Operand.tmp 21), type := 4, pos := "full.go:49", after := #[{ on := 1, ground := Ground.data }], guard := none }) (v := ?_) rfl (by kernel_rfl) (by kernel_rfl) (by kernel_rfl) (fun _ _ _ h => h) (Or.inl ⟨by rfl, ?_⟩) (by assumption) ?_
      rotate_left
      · (intro w hSw; (try dsimp only at hSw); go_simp; try with_reducible rfl)
      ((try simp only [Act.put]); (try simp only [List.setIfInBounds_toArray]); (try simp only [List.set_cons_succ]); (try simp only [List.set_cons_zero]))
      refine wpAnyH_take (i := 3) (oi := { dst := some 23, op := Op.move (Operand.tmp 0), type := 23, pos := "full.go:49", after := #[{ on := 2, ground := Ground.guard }], guard := some (2, false) }) (v := ?_) rfl (by kernel_rfl) (by kernel_rfl) (by kernel_rfl) (fun _ _ _ h => h) (Or.inl ⟨by rfl, ?_⟩) (by assumption) ?_
      rotate_left
      · (intro w hSw; (try dsimp only at hSw); go_simp; try with_reducible rfl)
      ((try simp only [Act.put]); (try simp only [List.setIfInBounds_toArray]); (try simp only [List.set_cons_succ]); (try simp only [List.set_cons_zero]))
      refine wpAnyH_take (i := 5) (oi := { dst := some 25, op := Op.move (Operand.tmp 1), type := 3, pos := "full.go:49", after := #[{ on := 2, ground := Ground.guard }], guard := some (2, false) }) (v := ?_) rfl (by kernel_rfl) (by kernel_rfl) (by kernel_rfl) (fun _ _ _ h => h) (Or.inl ⟨by rfl, ?_⟩) (by assumption) ?_
      rotate_left
      · (intro w hSw; (try dsimp only at hSw); go_simp; try with_reducible rfl)
      ((try simp only [Act.put]); (try simp only [List.setIfInBounds_toArray]); (try simp only [List.set_cons_succ]); (try simp only [List.set_cons_zero]))
      refine wpAnyH_ready (rs := [4]) (by kernel_rfl) (by simp) ?_
      refine AllReadyH.cons (o := { dst := some 24, op := Op.call { callee := Callee.value (Operand.func 36), args := #[Operand.tmp 23], argTypes := #[23] }, type := 30, pos := "full.go:49", after := #[{ on := 3, ground := Ground.data }, { on := 2, ground := Ground.chain }, { on := 2, ground := Ground.guard }], guard := some (2, false) }) rfl (fun K hK => ?_) AllReadyH.nil
      go_simp
      refine (en_oth (p := p) (e := e) ⟨_, _, _, _, V2.out.keep (Keep.ofBelow (F := fun _ => False) (Hid.out hHeld.2.2.2.2)) (fun _ _ => id)⟩).mono ?_
      rintro x w3 ⟨rfl, hb⟩
      try go_wp2_with fail
      refine hK.out _ _ ?_ (fun hNew => ?_)
      · first | exact hHeld | exact ⟨cell_go hHeld.1 hb, cell_go hHeld.2.1 hb, cell_go hHeld.2.2.1 hb, cell_go hHeld.2.2.2.1 hb, Lib.hid ((Hid.out hHeld.2.2.2.2).trans (hb.mono (Hid.out hHeld.2.2.2.2).size))⟩
      clear hK K
      replace hHeld := hNew
      clear hNew
      ((try simp only [Act.put]); (try simp only [List.setIfInBounds_toArray]); (try simp only [List.set_cons_succ]); (try simp only [List.set_cons_zero]))
      refine wpAnyH_ready (rs := [6]) (by kernel_rfl) (by simp) ?_
      refine AllReadyH.cons (o := { dst := some 26, op := Op.call { callee := Callee.value (Operand.func 33), args := #[Operand.tmp 24, Operand.tmp 25], argTypes := #[30, 3] }, type := 4, pos := "full.go:49", after := #[{ on := 4, ground := Ground.data }, { on := 5, ground := Ground.data }, { on := 4, ground := Ground.chain }, { on := 2, ground := Ground.guard }], guard := some (2, false) }) rfl (fun K hK => ?_) AllReadyH.nil
      go_simp
      refine (CH.out _).mono ?_
      rintro x w4 ⟨rfl, hb⟩
      try go_wp2_with fail
      refine hK.out _ _ ?_ (fun hNew => ?_)
      · first | exact hHeld | exact ⟨cell_go hHeld.1 hb, cell_go hHeld.2.1 hb, cell_go hHeld.2.2.1 hb, cell_go hHeld.2.2.2.1 hb, Lib.hid ((Hid.out hHeld.2.2.2.2).trans (hb.mono (Hid.out hHeld.2.2.2.2).size))⟩
      clear hK K
      replace hHeld := hNew
      clear hNew
      ((try simp only [Act.put]); (try simp only [List.setIfInBounds_toArray]); (try simp only [List.set_cons_succ]); (try simp only [List.set_cons_zero]))
      refine wpAnyH_take (i := 7) (oi := { dst := some 27, op := Op.unOp UnOp.not 4 (Operand.tmp 26), type := 4, pos := "full.go:49", after := #[{ on := 6, ground := Ground.data }, { on := 2, ground := Ground.guard }], guard := some (2, false) }) (v := ?_) rfl (by kernel_rfl) (by kernel_rfl) (by kernel_rfl) (fun _ _ _ h => h) (Or.inl ⟨by rfl, ?_⟩) (by assumption) ?_
      rotate_left
      · (intro w hSw; (try dsimp only at hSw); go_simp; try with_reducible rfl)
      ((try simp only [Act.put]); (try simp only [List.setIfInBounds_toArray]); (try simp only [List.set_cons_succ]); (try simp only [List.set_cons_zero]))
      refine wpAnyH_take (i := 8) (oi := { dst := some 28, op := Op.pick (Operand.tmp 22) (Operand.const (Value.bool true)) (Operand.tmp 27), type := 4, pos := "full.go:49", after := #[{ on := 2, ground := Ground.data }, { on := 7, ground := Ground.data }], guard := none }) (v := ?_) rfl (by kernel_rfl) (by kernel_rfl) (by kernel_rfl) (fun _ _ _ h => h) (Or.inl ⟨by rfl, ?_⟩) (by assumption) ?_
      rotate_left
      · (intro w hSw; (try dsimp only at hSw); go_simp; try with_reducible rfl)
      ((try simp only [Act.put]); (try simp only [List.setIfInBounds_toArray]); (try simp only [List.set_cons_succ]); (try simp only [List.set_cons_zero]))
      refine wpAnyH_take (i := 9) (oi := { dst := some 29, op := Op.move (Operand.tmp 28), type := 4, pos := "full.go:49", after := #[{ on := 8, ground := Ground.data }, { on := 6, ground := Ground.chain }], guard := none }) (v := ?_) rfl (by kernel_rfl) (by kernel_rfl) (by kernel_rfl) (fun _ _ _ h => h) (Or.inl ⟨by rfl, ?_⟩) (by assumption) ?_
      rotate_left
      · (intro w hSw; (try dsimp only at hSw); go_simp; try with_reducible rfl)
      ((try simp only [Act.put]); (try simp only [List.setIfInBounds_toArray]); (try simp only [List.set_cons_succ]); (try simp only [List.set_cons_zero]))
      refine wpAnyH_take (i := 10) (oi := { dst := some 30, op := Op.load 37 (Operand.tmp 8), type := 37, pos := "full.go:49", after := #[{ on := 9, ground := Ground.guard }], guard := some (9, false) }) (v := undef) rfl (by kernel_rfl) (by kernel_rfl) (by kernel_rfl) (fun _ _ _ h => h) (Or.inr ⟨by rfl, rfl⟩) (by assumption) ?_
      ((try simp only [Act.put]); (try simp only [List.setIfInBounds_toArray]); (try simp only [List.set_cons_succ]); (try simp only [List.set_cons_zero]))
      refine wpAnyH_take (i := 11) (oi := { dst := some 31, op := Op.move (Operand.tmp 0), type := 23, pos := "full.go:49", after := #[{ on := 9, ground := Ground.guard }], guard := some (9, false) }) (v := undef) rfl (by kernel_rfl) (by kernel_rfl) (by kernel_rfl) (fun _ _ _ h => h) (Or.inr ⟨by rfl, rfl⟩) (by assumption) ?_
      ((try simp only [Act.put]); (try simp only [List.setIfInBounds_toArray]); (try simp only [List.set_cons_succ]); (try simp only [List.set_cons_zero]))
      refine wpAnyH_take (i := 12) (oi := { dst := some 32, op := Op.nilCheck (Operand.tmp 31), type := 0, pos := "full.go:49", after := #[{ on := 11, ground := Ground.data }, { on := 9, ground := Ground.guard }], guard := some (9, false) }) (v := undef) rfl (by kernel_rfl) (by kernel_rfl) (by kernel_rfl) (fun _ _ _ h => h) (Or.inr ⟨by rfl, rfl⟩) (by assumption) ?_
      ((try simp only [Act.put]); (try simp only [List.setIfInBounds_toArray]); (try simp only [List.set_cons_succ]); (try simp only [List.set_cons_zero]))
      refine wpAnyH_take (i := 13) (oi := { dst := some 33, op := Op.fieldAddr 77 (Operand.tmp 32) 0, type := 0, pos := "full.go:49", after := #[{ on := 12, ground := Ground.data }, { on := 9, ground := Ground.guard }], guard := some (9, false) }) (v := undef) rfl (by kernel_rfl) (by kernel_rfl) (by kernel_rfl) (fun _ _ _ h => h) (Or.inr ⟨by rfl, rfl⟩) (by assumption) ?_
      ((try simp only [Act.put]); (try simp only [List.setIfInBounds_toArray]); (try simp only [List.set_cons_succ]); (try simp only [List.set_cons_zero]))
      refine wpAnyH_take (i := 14) (oi := { dst := some 34, op := Op.load 3 (Operand.tmp 33), type := 3, pos := "full.go:49", after := #[{ on := 13, ground := Ground.data }, { on := 9, ground := Ground.guard }], guard := some (9, false) }) (v := undef) rfl (by kernel_rfl) (by kernel_rfl) (by kernel_rfl) (fun _ _ _ h => h) (Or.inr ⟨by rfl, rfl⟩) (by assumption) ?_
      ((try simp only [Act.put]); (try simp only [List.setIfInBounds_toArray]); (try simp only [List.set_cons_succ]); (try simp only [List.set_cons_zero]))
      refine wpAnyH_take (i := 15) (oi := { dst := some 35, op := Op.call { callee := Callee.value (Operand.func 67), args := #[Operand.tmp 30, Operand.tmp 34], argTypes := #[37, 3] }, type := 42, pos := "full.go:49", after := #[{ on := 10, ground := Ground.data }, { on := 14, ground := Ground.data }, { on := 9, ground := Ground.chain }, { on := 9, ground := Ground.guard }], guard := some (9, false) }) (v := undef) rfl (by kernel_rfl) (by kernel_rfl) (by kernel_rfl) (fun _ _ _ h => h) (Or.inr ⟨by rfl, rfl⟩) (by assumption) ?_
      ((try simp only [Act.put]); (try simp only [List.setIfInBounds_toArray]); (try simp only [List.set_cons_succ]); (try simp only [List.set_cons_zero]))
      refine wpAnyH_take (i := 16) (oi := { dst := some 36, op := Op.move (Operand.tmp 0), type := 23, pos := "full.go:49", after := #[{ on := 9, ground := Ground.guard }], guard := some (9, false) }) (v := undef) rfl (by kernel_rfl) (by kernel_rfl) (by kernel_rfl) (fun _ _ _ h => h) (Or.inr ⟨by rfl, rfl⟩) (by assumption) ?_
      ((try simp only [Act.put]); (try simp only [List.setIfInBounds_toArray]); (try simp only [List.set_cons_succ]); (try simp only [List.set_cons_zero]))
      refine wpAnyH_take (i := 17) (oi := { dst := some 37, op := Op.nilCheck (Operand.tmp 36), type := 0, pos := "full.go:49", after := #[{ on := 16, ground := Ground.data }, { on := 9, ground := Ground.guard }], guard := some (9, false) }) (v := undef) rfl (by kernel_rfl) (by kernel_rfl) (by kernel_rfl) (fun _ _ _ h => h) (Or.inr ⟨by rfl, rfl⟩) (by assumption) ?_
      ((try simp only [Act.put]); (try simp only [List.setIfInBounds_toArray]); (try simp only [List.set_cons_succ]); (try simp only [List.set_cons_zero]))
      refine wpAnyH_take (i := 18) (oi := { dst := some 38, op := Op.fieldAddr 77 (Operand.tmp 37) 2, type := 0, pos := "full.go:49", after := #[{ on := 17, ground := Ground.data }, { on := 9, ground := Ground.guard }], guard := some (9, false) }) (v := undef) rfl (by kernel_rfl) (by kernel_rfl) (by kernel_rfl) (fun _ _ _ h => h) (Or.inr ⟨by rfl, rfl⟩) (by assumption) ?_
      ((try simp only [Act.put]); (try simp only [List.setIfInBounds_toArray]); (try simp only [List.set_cons_succ]); (try simp only [List.set_cons_zero]))
      refine wpAnyH_take (i := 19) (oi := { dst := some 39, op := Op.load 42 (Operand.tmp 38), type := 42, pos := "full.go:49", after := #[{ on := 18, ground := Ground.data }, { on := 9, ground := Ground.guard }], guard := some (9, false) }) (v := undef) rfl (by kernel_rfl) (by kernel_rfl) (by kernel_rfl) (fun _ _ _ h => h) (Or.inr ⟨by rfl, rfl⟩) (by assumption) ?_
      ((try simp only [Act.put]); (try simp only [List.setIfInBounds_toArray]); (try simp only [List.set_cons_succ]); (try simp only [List.set_cons_zero]))
      refine wpAnyH_take (i := 20) (oi := { dst := some 40, op := Op.call { callee := Callee.value (Operand.func 62), args := #[Operand.tmp 35, Operand.tmp 39], argTypes := #[42, 42] }, type := 3, pos := "full.go:49", after := #[{ on := 15, ground := Ground.data }, { on := 19, ground := Ground.data }, { on := 15, ground := Ground.chain }, { on := 9, ground := Ground.guard }], guard := some (9, false) }) (v := undef) rfl (by kernel_rfl) (by kernel_rfl) (by kernel_rfl) (fun _ _ _ h => h) (Or.inr ⟨by rfl, rfl⟩) (by assumption) ?_
      ((try simp only [Act.put]); (try simp only [List.setIfInBounds_toArray]); (try simp only [List.set_cons_succ]); (try simp only [List.set_cons_zero]))
      refine wpAnyH_take (i := 21) (oi := { dst := some 41, op := Op.binOp BinOp.gtr 3 (Operand.tmp 40) (Operand.const (Value.int IntKind.i64 0)) 3, type := 4, pos := "full.go:49", after := #[{ on := 20, ground := Ground.data }, { on := 9, ground := Ground.guard }], guard := some (9, false) }) (v := undef) rfl (by kernel_rfl) (by kernel_rfl) (by kernel_rfl) (fun _ _ _ h => h) (Or.inr ⟨by rfl, rfl⟩) (by assumption) ?_
      ((try simp only [Act.put]); (try simp only [List.setIfInBounds_toArray]); (try simp only [List.set_cons_succ]); (try simp only [List.set_cons_zero]))
      refine wpAnyH_take (i := 22) (oi := { dst := some 42, op := Op.pick (Operand.tmp 29) (Operand.const (Value.bool true)) (Operand.tmp 41), type := 4, pos := "full.go:49", after := #[{ on := 9, ground := Ground.data }, { on := 21, ground := Ground.data }], guard := none }) (v := ?_) rfl (by kernel_rfl) (by kernel_rfl) (by kernel_rfl) (fun _ _ _ h => h) (Or.inl ⟨by rfl, ?_⟩) (by assumption) ?_
      rotate_left
      · (intro w hSw; (try dsimp only at hSw); go_simp; try with_reducible rfl)
      ((try simp only [Act.put]); (try simp only [List.setIfInBounds_toArray]); (try simp only [List.set_cons_succ]); (try simp only [List.set_cons_zero]))
      refine wpAnyH_done (by kernel_rfl) ?_ _
      refine NoPanic.normal ?_
      skip
      obtain ⟨⟨x1, x2, x3, x4⟩, y1, y2, hB⟩ := Cel.none0 (T2.out.below (Hid.out hHeld.2.2.2.2)) (BW.out.trans ((Hid.out hHeld.2.2.2.2).mono BW.out.size)) (Nat.le_refl _)
      have R := Lib.hid hB
      clear hHeld hB
      go_wp2_with fail
      refine bodyPost_ret (v := .tuple #[.agg #[.int .i64 0, .slice none 0 0], .bool false]) (by simp [results, Try.results40, go_sem, y1, y2]) rfl ?_
      exact ⟨rfl, R.out⟩

end Go.Proofs.Ytopnagjbdjicaaa

/-
  full: Can, Take.
-/
namespace Go.Proofs.Ytopnagjbdjicaaa
open Go.RowKit

set_option maxRecDepth 20000 in
set_option maxHeartbeats 4000000 in
theorem en_can {w : World} {F : Nat → Prop} {p : Nat} {e : En} {f : Int} {num : Int} {ao : Option Addr} {cap len : Nat} {bs : List Nat} (h : EnAt w F p e) (hs : SlAt bV 256 w ao cap bs) (hlen : bs.length = len) (hlm : len ≤ 2000000) (hf : IntOk f) {r : Bool} (hr : canE e f bs = r) :
    Calls Try.prog 13 #[.pointer (some ⟨p, 0, none⟩), .int .i64 f, .int .u64 num, .slice ao len cap] w fun x w' => x = .returned (.bool r) ∧ Below w.heap.size w w' := by
  have CR := Lib.hid (en_ready h hs hlen hlm hf hr)
  clear h hs hlen hlm hf hr
  generalize (readM (e.n : Int) bs).getD [] = m at *
  go_enter Try.func13, Try.ntmps13
  go_wp2_with fail
  refine CR.out.mono ?_
  cases r
  · rintro x w1 ⟨rfl, hb1⟩
    have R := Lib.hid (hb1.trans ((box_b w1 (.cells #[.int .i64 0, .slice none 0 0] 37)).mono hb1.size))
    clear hb1
    go_wp2_with fail
    go_ret
    exact ⟨rfl, R.out⟩
  · rintro x w1 ⟨a, c, rfl, hS, hb1⟩
    have R := Lib.hid (hb1.trans ((box_b w1 (.cells #[.int .i64 (e.n : Int), .slice a e.n c] 37)).mono hb1.size))
    clear hb1 hS
    go_wp2_with fail
    go_ret
    exact ⟨rfl, R.out⟩

theorem rows_low {z : Int} {m : List (List Nat)} (g : goodM z m = true) : ∀ r ∈ m, r.length ≤ 10000 := fun r hr => by
  obtain ⟨n, -, -, h2, -, h4⟩ := goodM_is g
  rw [h4 r hr]; omega

set_option maxRecDepth 20000 in
set_option maxHeartbeats 8000000 in
theorem en_take {w : World} {F : Nat → Prop} {p : Nat} {e : En} {f : Int} {num : Int} {tt : Nat} {ao : Option Addr} {cap len : Nat} {bs : List Nat} (h : EnAt w F p e) (hto : tt < 18446744073709551616) (hs : SlAt bV 256 w ao cap bs) (hlen : bs.length = len) (hlm : len ≤ 2000000) (hf : IntOk f) {r : Bool} (hr : canE e f bs = r) {e' : En} (he : takeE e f tt bs = e') :
    Calls Try.prog 12 #[.pointer (some ⟨p, 0, none⟩), .int .i64 f, .int .u64 num, .int .u64 (tt : Int), .slice ao len cap] w (EnGo w F p e' (.bool r)) := by
  subst he
  have CR := Lib.hid (en_ready h hs hlen hlm hf hr)
  have D := Lib.hid h
  have HR := Lib.hid hr
  have TL := Lib.hid hto
  clear h hs hlen hlm hf hr hto
  go_enter Try.func12, Try.ntmps12
  go_wp2_with fail
  refine CR.out.mono ?_
  clear CR
  cases r
  · rintro x w1 ⟨rfl, hb1⟩
    have hb2 := hb1.trans ((box_b w1 (.cells #[.int .i64 0, .slice none 0 0] 37)).mono hb1.size)
    have R := Lib.hid (show EnGo w F p (takeE e f tt bs) (.bool false) (.returned (.bool false)) (w1.alloc (.cells #[.int .i64 0, .slice none 0 0] 37)) from by
      rw [takeE_no HR.out]
      exact ⟨F, rfl, D.out.below hb2, Keep.ofBelow hb2, fun _ h => Or.inl h⟩)
    clear hb1 hb2
    go_wp2_with fail
    go_ret
    exact R.out
  · obtain ⟨m, hm, hf0, hf1, hf2, -⟩ := canE_is HR.out
    rw [hm]
    rintro x w1 ⟨ma, mc, rfl, hS1, hb1⟩
    obtain ⟨w2, hw2⟩ : ∃ w2, w2 = w1.alloc (.cells #[.int .i64 (e.n : Int), .slice ma e.n mc] 37) := ⟨_, rfl⟩
    have b2 : Below w1.heap.size w1 w2 := by rw [hw2]; exact box_b _ _
    have q8 : Cel 2 w2 w1.heap.size (mkC (e.n : Int) (.slice ma e.n mc)) := by rw [hw2]; exact box_new w1 _ _ _
    have HW2 := Lib.hid hw2.symm
    have M2 := Lib.hid (hS1.below b2)
    have B2 := Lib.hid (hb1.trans (b2.mono hb1.size))
    obtain ⟨sa, sc, ga, gc, hV⟩ := D.out.below B2.out
    have V2 := Lib.hid hV
    have ok := Lib.hid hV.ok
    have GM := Lib.hid (readM_good hm)
    have GU := Lib.hid (upM_good (i := f) (t := tt) GM.out.1 GM.out.2)
    have HT := Lib.hid (takeE_yes (t := tt) HR.out hm)
    have OKT := Lib.hid (takeE_ok ok.out f tt bs)
    rw [HT.out] at OKT
    have PW := Lib.hid (show p < w.heap.size from by obtain ⟨_, _, _, _, h⟩ := D.out; exact h.low p h.p)
    have LW := Lib.hid D.out.low
    have P8 := Lib.hid (show w.heap.size ≤ w1.heap.size from hb1.size)
    obtain ⟨j, rfl⟩ : ∃ j : Nat, f = j := ⟨f.toNat, by omega⟩
    have LU := Lib.hid (show (upR e.G (j : Int)).length = e.n from (upR_same (by rw [ok.out.G]; omega)).trans ok.out.G)
    have en16 := ok.out.n2
    have d3 : w2.cell? ⟨p, 3, none⟩ = some (.slice ga e.n gc) := V2.out.c.c 3 (by decide)
    have CU := Lib.hid (vup_any (z := (j : Int)) V2.out.g ok.out.G (by omega) rfl rfl)
    have QC := Lib.hid q8
    have HBM := Lib.hid (show bothM (e.n : Int) e.S (e.n : Int) (upM (e.n : Int) m (j : Int) tt) = true from by unfold bothM; rw [ok.out.S, GU.out.1]; simp)
    have GML := Lib.hid (rows_low GM.out.1)
    clear hV hf0 hf1 hf2 hm hS1 hb1 b2 hw2 q8
    go_upto_region 4 with fail
    rw [HW2.out]
    clear HW2
    generalize w1.heap.size = p8 at *
    go_wp2_with fail
    refine CU.out.mono ?_
    rintro x w4 ⟨a4, c4, rfl, hs4, hb4, hf4, -⟩
    rw [LU.out]
    have OKG : ({ e with G := upR e.G (j : Int) } : En).ok := ⟨ok.out.n1, ok.out.n2, ok.out.me, ok.out.S, ok.out.lt, LU.out, upR_lt ok.out.gt⟩
    obtain ⟨e3, f3, N4, K4⟩ := V2.out.setG hs4 hb4 hf4 OKG
    have V5 := Lib.hid N4
    have K5 := Lib.hid ((Keep.ofBelow (F := F) B2.out).trans K4 (fun _ _ h => h))
    have M5 := Lib.hid (show SqAt (fun k => NewA w (fun _ => False) k) (w4.setCell ⟨p, 3, none⟩ (.slice a4 e.n c4)) ma mc e.n m from
      (M2.out.below hb4).put (fun h => h.elim (fun h => h.elim) (fun h => by have := PW.out; omega)) 3 _)
    have SZ4 := Lib.hid (show w2.heap.size ≤ w4.heap.size ∧ (w4.setCell ⟨p, 3, none⟩ (.slice a4 e.n c4)).heap.size = w4.heap.size from ⟨hb4.size, by simp [World.setCell]⟩)
    have Q5 := Lib.hid (show Cel 2 (w4.setCell ⟨p, 3, none⟩ (.slice a4 e.n c4)) p8 (mkC (e.n : Int) (.slice ma e.n mc)) from
      (QC.out.below hb4).keep (F := fun k => k = p) ((Keep.refl _ _).put _ _) (by have := PW.out; have := P8.out; omega))
    clear N4 K4 OKG hs4 hb4 hf4 d3 CU
    generalize hmu : mayUp e.G (j : Int) = mu at *
    clear hmu
    go_upto_region 5 with fail
    generalize hw5 : w4.setCell ⟨p, 3, none⟩ (.slice a4 e.n c4) = w5 at *
    clear hw5 e3 f3
    generalize upR e.G (j : Int) = G' at *
    have b1 : w5.cell? ⟨p, 1, none⟩ = some (.int .i64 e.n) := V5.out.c.c 1 (by decide)
    have b2 : w5.cell? ⟨p, 2, none⟩ = some (.slice sa e.n sc) := V5.out.c.c 2 (by decide)
    have q0 : w5.cell? ⟨p8, 0, none⟩ = some (.int .i64 e.n) := Q5.out.c 0 (by decide)
    have q1 : w5.cell? ⟨p8, 1, none⟩ = some (.slice ma e.n mc) := Q5.out.c 1 (by decide)
    have OK5 := OKT
    have b1d : w5.drew.cell? ⟨p, 1, none⟩ = some (.int .i64 e.n) := b1
    have b2d : w5.drew.cell? ⟨p, 2, none⟩ = some (.slice sa e.n sc) := b2
    have q0d : w5.drew.cell? ⟨p8, 0, none⟩ = some (.int .i64 e.n) := q0
    have q1d : w5.drew.cell? ⟨p8, 1, none⟩ = some (.slice ma e.n mc) := q1
    have CUP := Lib.hid (mup_new (z := (e.n : Int)) (i := (j : Int)) (M5.out.below (drew_below w5)) (by omega) GML.out TL.out)
    have FIN := Lib.hid (fun (w7 : World) (a7 : Option Addr) (c7 : Nat) (h4 : SqR (fun _ => False) w5 e.n (joinM e.S (upM (e.n : Int) m (j : Int) tt)) a7 c7 w7) =>
      show w7.cell? ⟨p, 1, none⟩ = some (.int .i64 e.n) ∧ w7.cell? ⟨p, 2, none⟩ = some (.slice sa e.n sc) ∧ w7.frozen? ⟨p, 1, none⟩ = false ∧ w7.frozen? ⟨p, 2, none⟩ = false ∧ EnGo w F p (takeE e (j : Int) tt bs) (.bool true) (.returned (.bool true)) ((w7.setCell ⟨p, 1, none⟩ (.int .i64 e.n)).setCell ⟨p, 2, none⟩ (.slice a7 e.n c7)) from by
        obtain ⟨d1, d2, f1, f2, N7, K7⟩ := V5.out.setS h4 OK5.out
        refine ⟨d1, d2, f1, f2, fun k => (F k ∨ (w2.heap.size ≤ k ∧ k < w4.heap.size)) ∨ (w5.heap.size ≤ k ∧ k < w7.heap.size), rfl, ?_, K5.out.trans K7 (fun i hi h => h.elim id (fun h => by have := B2.out.size; have := SZ4.out; omega)), fun k h => ?_⟩
        · rw [HT.out]
          exact ⟨_, _, _, _, N7⟩
        · have h1 := B2.out.size
          have h2 := SZ4.out
          rcases h with (h | h) | h
          · exact Or.inl h
          · exact Or.inr (by omega)
          · exact Or.inr (by omega))
    go_region_law (first
      | (go_simp
         go_at_call 39
         refine CUP.out.mono ?_
         rintro x w6 ⟨a6, c6, rfl, h6⟩
         have B6 := Lib.hid (h6.drew).2
         have U6 := Lib.hid h6.1
         have V6 := Lib.hid (V5.out.keep (Keep.ofBelow (F := fun _ => False) (h6.drew).2) (fun _ _ => id))
         have e1 : w6.cell? ⟨p, 1, none⟩ = some (.int .i64 e.n) := V6.out.c.c 1 (by decide)
         have e2 : w6.cell? ⟨p, 2, none⟩ = some (.slice sa e.n sc) := V6.out.c.c 2 (by decide)
         clear h6)
      | (go_simp
         go_at_call 42
         refine (mjoin_new (z1 := (e.n : Int)) (z2 := (e.n : Int)) V6.out.s U6.out HBM.out).mono ?_
         rintro x w7 ⟨a7, c7, rfl, h7⟩
         obtain ⟨d1, d2, f1, f2, hR⟩ := FIN.out w7 a7 c7 ⟨h7.1.mono (fun k _ hk => hk.elim (fun h => h.elim) (fun h => Or.inr (Nat.le_trans B6.out.size h))), B6.out.trans (h7.2.mono B6.out.size)⟩
         have R := Lib.hid hR
         clear h7 hR))
    all_goals
      try go_simp
      go_wp2_with fail
      go_ret
      exact R.out

end Go.Proofs.Ytopnagjbdjicaaa

/-
  full.Stamp.
-/
namespace Go.Proofs.Ytopnagjbdjicaaa
open Go.RowKit

set_option maxRecDepth 20000 in
set_option maxHeartbeats 4000000 in
theorem stamp_at {A : Nat → Prop} {W : World} {a : Option Addr} {cap n : Nat} {m : List (List Nat)} {z : Int} (h : SqAt A W a cap n m) {L : List Nat} (hL : (if goodM z m = true then stampL m else []) = L) :
    Calls Try.prog 19 #[.agg #[.int .i64 z, .slice a n cap]] W fun e w' => ∃ a' c', e = .returned (.slice a' L.length c') ∧ SlAt bV 256 w' a' c' L ∧ Below W.heap.size W w' ∧ ∀ ad, a' = some ad → W.heap.size ≤ ad.block := by
  obtain ⟨g, hg⟩ : ∃ b, b = goodM z m := ⟨_, rfl⟩
  obtain ⟨U, hU⟩ : ∃ U, U = W.alloc (.cells #[.int .i64 z, .slice a n cap] 37) := ⟨_, rfl⟩
  have hb : Below W.heap.size W U := by rw [hU]; exact box_b W _
  have C1 : Cel 2 U W.heap.size (mkC z (.slice a n cap)) := by rw [hU]; exact box_new W z _ _
  have p0 : U.cell? ⟨W.heap.size, 0, none⟩ = some (.int .i64 z) := C1.c 0 (by decide)
  have p1 : U.cell? ⟨W.heap.size, 1, none⟩ = some (.slice a n cap) := C1.c 1 (by decide)
  have CG := Lib.hid (mgood_at (z := z) (h.below hb) hg.symm)
  have HU := Lib.hid hU.symm
  have HG := Lib.hid hg.symm
  have HL := Lib.hid hL
  have S := Lib.hid h
  have HB := Lib.hid hb
  have P := Lib.hid C1
  clear hg hL h hU hb C1
  go_enter Try.func19, Try.ntmps19
  go_wp2_with fail
  rw [HU.out]
  go_wp2_with fail
  refine CG.out.mono ?_
  rintro e w1 ⟨rfl, hb1⟩
  have B1 := Lib.hid (HB.out.trans (hb1.mono HB.out.size))
  replace P := Lib.hid (P.out.below hb1)
  clear hb1 CG HU p0 p1 HB
  cases g
  · obtain rfl : L = [] := by rw [← HL.out, HG.out]; rfl
    go_wp2_with fail
    go_ret
    exact ⟨none, 0, rfl, SlAt.none _ _ _, B1.out, fun ad e => by cases e⟩
  · obtain ⟨N, rfl, hN1, hN2, hN3, hN4⟩ := goodM_is HG.out
    obtain rfl : N = n := by rw [← hN3, S.out.len]
    obtain rfl : stampL m = L := by rw [← HL.out, HG.out]; rfl
    have LT := Lib.hid S.out.lt
    have H3 := Lib.hid hN3
    have H4 := Lib.hid hN4
    have CW := Lib.hid (wnew_any w1 W.heap.size B1.out.size)
    clear hN3 hN4 HL
    go_wp2_with fail
    refine CW.out.mono ?_
    rintro e w2 ⟨rfl, hA2, hb2⟩
    have W0 := Lib.hid (show WrOn W W.heap.size w1.heap.size [] w2 from ⟨⟨_, hA2⟩, B1.out.trans (hb2.mono B1.out.size)⟩)
    replace P := Lib.hid (P.out.below hb2)
    have q1 : w2.cell? ⟨W.heap.size, 1, none⟩ = some (.slice a N cap) := P.out.c 1 (by decide)
    clear hA2 hb2 CW
    generalize w1.heap.size = pw at *
    go_wp2_with fail
    clear q1
    go_loopw [15] (fun i wr => ∃ k : Nat, k ≤ N ∧ i = .int .i64 (k : Nat) ∧ WrOn W W.heap.size pw (stampL (m.take k)) wr) (fun i _ => N - (intOf i).toNat)
    case atStart => exact ⟨0, Nat.zero_le _, rfl, W0.out⟩
    case round =>
      obtain ⟨k, hk, rfl, hO⟩ := hrel
      have O := Lib.hid hO
      clear hO W0
      by_cases hlt : k < N
      · obtain ⟨r, er, er2, lr, mr⟩ := row_at H3.out H4.out hlt
        have i0 : (0 : Int) ≤ (k : Int) := by omega
        have i1 : (k : Int) < (N : Int) := by omega
        have ST := Lib.hid (show stampL (m.take (k + 1)) = stampL (m.take k) ++ rowL r from by
          have h1 : k < m.length := by rw [H3.out]; exact hlt
          rw [stampL_take h1]
          rw [List.getElem?_eq_getElem h1] at er2
          cases er2
          rfl)
        have MR := Lib.hid mr
        have LR := Lib.hid lr
        obtain ⟨b, off, ra, rc, rfl, hc, hs⟩ := (S.out.below O.out.2).row hlt
        rw [er] at hc hs
        rw [lr] at hc
        have SR := Lib.hid (show SlAt qV QM W ra rc r from by
          obtain ⟨b', off', ra', rc', e', hc', hs'⟩ := S.out.row hlt
          cases e'
          have := cell_go hc' O.out.2
          rw [hc] at this
          cases this
          rw [er] at hs'
          exact hs')
        clear er er2 lr mr hs
        go_wp2_with fail
        clear hc
        go_loopw [21] (fun i wr => ∃ q : Nat, q ≤ N ∧ i = .int .i64 (q : Nat) ∧ WrOn W W.heap.size pw (stampL (m.take k) ++ rowL (r.take q)) wr) (fun i _ => N - (intOf i).toNat)
        case atStart => exact ⟨0, Nat.zero_le _, rfl, by rw [List.take_zero]; simpa [rowL] using O.out⟩
        case round =>
          obtain ⟨q, hq, rfl, hO⟩ := hrel
          have Q := Lib.hid hO
          clear hO O
          by_cases hlq : q < N
          · obtain ⟨b2, off2, rfl, -, hc2⟩ := (SR.out.below Q.out.2).at (i := q) (by rw [LR.out]; exact hlq)
            have hc2' : wr.cell? ⟨b2, off2 + q, none⟩ = some (.int .u64 ((atN r q : Nat) : Int)) := hc2
            have j0 : (0 : Int) ≤ (q : Int) := by omega
            have j1 : (q : Int) < (N : Int) := by omega
            have CN := Lib.hid (on_num (n := atN r q) Q.out (atN_lt (by decide) SR.out.lt q) (stamp_room H3.out hN2 H4.out LT.out MR.out))
            have NX := Lib.hid (show stampL (m.take k) ++ rowL (r.take q) ++ lebL (atN r q) = stampL (m.take k) ++ rowL (r.take (q + 1)) from by
              rw [List.append_assoc, rowL_take (by rw [LR.out]; exact hlq), atN_of (by rw [LR.out]; exact hlq)])
            rw [NX.out] at CN
            clear hc2 Q
            generalize atN r q = v at *
            go_wp2_with (go_at_call 51; refine CN.out.mono ?_; rintro e w2 ⟨rfl, hO2⟩; have O2 := Lib.hid hO2; clear hO2)
            go_roundw
            case rel => exact ⟨q + 1, by omega, by go_num, O2.out⟩
            case measure => simp only [intOf]; omega
          · obtain rfl : q = N := by omega
            have dq : decide ((q : Int) < (q : Int)) = false := decide_eq_false (by omega)
            have O3 := Lib.hid (show WrOn W W.heap.size pw (stampL (m.take (k + 1))) wr from by
              have := Q.out
              rw [List.take_of_length_le (show r.length ≤ q from Nat.le_of_eq LR.out)] at this
              rw [ST.out]; exact this)
            clear Q
            go_wp2_with fail
            go_roundw
            case rel => exact ⟨k + 1, by omega, by go_num, O3.out⟩
            case measure => simp only [intOf]; omega
      · obtain rfl : k = N := by omega
        have dk : decide ((k : Int) < (k : Int)) = false := decide_eq_false (by omega)
        have D := O.out
        rw [List.take_of_length_le (by rw [H3.out]; exact Nat.le_refl _)] at D
        have hbl := stampL_len (m := m) (n := 16) (fun r hr => by rw [H4.out r hr]; omega) LT.out
        have hml : 10 * 16 * m.length ≤ 10 * 16 * 16 := Nat.mul_le_mul_left _ (by rw [H3.out]; omega)
        have CD := Lib.hid (on_done D (by omega))
        have SZ := Lib.hid O.out.2.size
        clear D O hbl hml
        go_wp2_with (go_at_call 52; refine CD.out.mono ?_; rintro e w3 ⟨a3, c3, rfl, hs3, hW3, hb3, hf3⟩)
        have R := Lib.hid (And.intro hs3 (And.intro hW3.2 hf3))
        clear hs3 hW3 hb3 hf3
        go_ret
        exact ⟨a3, c3, rfl, R.out.1, R.out.2.1, fun ad e => Nat.le_trans SZ.out (R.out.2.2 ad e)⟩

end Go.Proofs.Ytopnagjbdjicaaa

/-
  full.Send.
-/
namespace Go.Proofs.Ytopnagjbdjicaaa
open Go.RowKit

theorem Try.infoXs : (Try.prog.info? 32).map (fun i => (i.zero, i.size, i.bytes)) = some (some (.slice none 0 0), 1, 24) := by kernel_rfl
/-- Rows of bytes of one's own, one after another. -/
structure BqS (B : Nat) (w : World) (s : Value) (L : List Rd) : Prop where
  own : w.ownsRow B 32 1 s L.length (L.map rdV)
  row : ∀ r ∈ L, SlAt bV 256 w r.a r.c r.l
  lo : ∀ r ∈ L, ∀ ad, r.a = some ad → r.l ≠ [] → B ≤ ad.block ∧ ad.block < w.heap.size ∧ s.ownBlock ≠ some ad.block
theorem BqS.nil (B : Nat) (w : World) : BqS B w (.slice none 0 0) [] := ⟨World.ownsRow_nil _ _ _ _, by simp, by simp⟩
theorem BqS.below {B : Nat} {w w' : World} {s : Value} {L : List Rd} (h : BqS B w s L) (hb : Below w.heap.size w w') : BqS B w' s L :=
  ⟨own_below h.own hb, fun r hr => (h.row r hr).below hb, fun r hr ad e hne => ⟨(h.lo r hr ad e hne).1, Nat.lt_of_lt_of_le (h.lo r hr ad e hne).2.1 hb.size, (h.lo r hr ad e hne).2.2⟩⟩
/-- One more. -/
theorem BqS.push {B : Nat} {w w1 w2 w3 : World} {s s' : Value} {L : List Rd} {a : Option Addr} {c : Nat} {bs : List Nat} (h : BqS B w s L) (hB : B ≤ w.heap.size) (h1 : Below w.heap.size w w1) (hs : SlAt bV 256 w1 a c bs) (hf : ∀ ad, a = some ad → w.heap.size ≤ ad.block ∧ ad.block < w1.heap.size) (h2 : Below w1.heap.size w1 w2)
    (hown : w3.ownsRow B 32 1 s' (L.length + 1) (L.map rdV ++ [.slice a bs.length c])) (hgr : w2.grownBy w3 s.ownBlock) (hat : ∀ j, s'.ownBlock = some j → s.ownBlock = some j ∨ w2.heap.size ≤ j) :
    BqS B w3 s' (L ++ [⟨a, c, bs⟩]) := by
  have s1 := h1.size
  have s2 := h2.size
  have s3 := hgr.size
  have sold : ∀ k, s.ownBlock = some k → k < w.heap.size := fun k e => (h.own.lt k e).2
  have kk : Keep (fun j => s.ownBlock = some j) w2 w3 := (Keep.refl _ _).grown hgr (fun j h => Or.inl h)
  refine ⟨by rw [List.length_append, List.map_append]; exact hown, fun r hr => ?_, fun r hr ad e hne => ?_⟩
  · rcases List.mem_append.1 hr with hr | hr
    · exact (((h.row r hr).below h1).below h2).carry kk.size (fun ad e hne hlt => kk.block _ hlt (h.lo r hr ad e hne).2.2)
    · rw [List.mem_singleton.1 hr]
      exact (hs.below h2).carry kk.size (fun ad e hne hlt => kk.block _ hlt (fun e2 => by have := sold _ e2; have := hf ad e; omega))
  · rcases List.mem_append.1 hr with hr | hr
    · obtain ⟨g1, g2, g3⟩ := h.lo r hr ad e hne
      exact ⟨g1, by omega, fun e2 => (hat _ e2).elim g3 (fun h => by omega)⟩
    · rw [List.mem_singleton.1 hr] at e
      obtain ⟨g1, g2⟩ := hf ad e
      exact ⟨by omega, by omega, fun e2 => (hat _ e2).elim (fun e3 => by have := sold _ e3; omega) (fun h => by omega)⟩
theorem BqS.out {B n : Nat} {w : World} {a : Option Addr} {cap : Nat} {L : List Rd} {m : List (List Nat)} (h : BqS B w (.slice a n cap) L) (hl : L.length = n) (hm : mOf L = m) : BqAt (fun k => B ≤ k) w a cap n m := by
  obtain ⟨-, a2, c2, e, hS⟩ := own_slv h.own
  rw [List.length_map] at e
  simp only [Value.slice.injEq] at e
  obtain ⟨rfl, -, rfl⟩ := e
  refine ⟨L, hm, hl, hS, h.row, fun ad e _ => (h.own.lt ad.block (by rw [e]; rfl)).1, fun r hr ad e hne => (h.lo r hr ad e hne).1⟩

set_option maxRecDepth 20000 in
set_option maxHeartbeats 8000000 in
theorem en_send {w : World} {F : Nat → Prop} {p : Nat} {e : En} {t : Nat} (h : EnAt w F p e) (ht : t < 18446744073709551616) {L : List Nat} (hL : stampL e.S = L) {c : Nat} (hc : (listN (toE e.n e.me t)).length = c) {e' : En} (he : sendE e t = e') :
    Calls Try.prog 10 #[.pointer (some ⟨p, 0, none⟩), .int .u64 (t : Int)] w (EnSend w F p e' L c) := by
  obtain ⟨i0, hi0, hz0, hz1, hz2⟩ := info_v Try.infoXs
  subst he
  have ok := Lib.hid h.ok
  have CO := Lib.hid (en_oth h)
  have hand : bits .and .u64 (t : Int) ((othE e.n e.me : Nat) : Int) = ((toE e.n e.me t : Nat) : Int) := by rw [u64_and_nat t _ ht (othE_lt _ _), othE_to]
  have TL := Lib.hid (toE_lt (n := e.n) (me := e.me) ht)
  have HS := Lib.hid (show sendE e t = { e with S := upM (e.n : Int) e.S (e.me : Int) (toE e.n e.me t) } from rfl)
  have OK2 := Lib.hid (sendE_ok ok.out t)
  have HC := Lib.hid (show cntN (toE e.n e.me t) = c from hc)
  have LL := Lib.hid (show L.length ≤ 2560 from by rw [← hL]; exact stampE_len ok.out)
  have c64 := Lib.hid (show c ≤ 64 from by rw [← hc]; exact toN_len _ _)
  have D := Lib.hid h
  have HL := Lib.hid hL
  have en16 := ok.out.n2
  clear h ht hL hc
  generalize toE e.n e.me t = tt at *
  generalize othE e.n e.me = oo at *
  go_enter Try.func10, Try.ntmps10
  go_wp2_with fail
  refine CO.out.mono ?_
  rintro x w1 ⟨rfl, hb1⟩
  obtain ⟨sa, sc, ga, gc, hV⟩ := D.out.below hb1
  have V1 := Lib.hid hV
  have B1 := Lib.hid hb1
  have LW := Lib.hid D.out.low
  have c1 : w1.cell? ⟨p, 1, none⟩ = some (.int .i64 e.n) := hV.c.c 1 (by decide)
  have c2 : w1.cell? ⟨p, 2, none⟩ = some (.slice sa e.n sc) := hV.c.c 2 (by decide)
  have CS := Lib.hid (stamp_at (z := (e.n : Int)) hV.s (L := L) (by rw [if_pos ok.out.S]; exact HL.out))
  clear hV hb1 CO D
  go_wp2_with fail
  refine CS.out.mono ?_
  rintro x w2 ⟨ba, bc, rfl, hs2, hb2, hf2⟩
  have B2 := Lib.hid (B1.out.trans (hb2.mono B1.out.size))
  have V2 := Lib.hid (V1.out.keep (Keep.ofBelow (F := fun _ => False) hb2) (fun _ _ => id))
  have S2 := Lib.hid hs2
  have CC := Lib.hid (count_any tt w2 TL.out)
  rw [HC.out] at CC
  clear hs2 hb2 hf2 c1 c2 CS hand
  go_wp2_with (go_at_call 37; refine CC.out.mono ?_; rintro x w' ⟨rfl, rfl⟩)
  generalize hln : L.length = ln at *
  have HLN := Lib.hid hln
  clear hln CC
  have I0 := Lib.hid (BqS.nil w2.heap.size w2)
  have RP := Lib.hid (fun (k : Nat) => show List.replicate (k + 1) L = List.replicate k L ++ [L] from List.replicate_succ')
  go_loopw [6, 18] (fun s i wr => ∃ (k : Nat) (K : List Rd), k ≤ c ∧ i = .int .i64 (k : Nat) ∧ K.length = k ∧ mOf K = List.replicate k L ∧ BqS w2.heap.size wr s K ∧ Below w2.heap.size w2 wr) (fun _ i _ => c - (intOf i).toNat)
  case atStart => exact ⟨0, [], Nat.zero_le _, rfl, rfl, rfl, I0.out, Below.refl _ _⟩
  case round =>
    obtain ⟨k, K, hk, rfl, hl, hm, hQ, hb⟩ := hrel
    obtain ⟨la, lc, rfl⟩ := own_form hQ.own
    rw [hl] at hQ ⊢
    have Q := Lib.hid hQ
    have HK := Lib.hid hl
    have HM := Lib.hid hm
    have B3 := Lib.hid hb
    have BW := Lib.hid hb.size
    clear hQ hl hm hb I0
    by_cases hlt : k < c
    · have CL := Lib.hid (clone_of (S2.out.below B3.out) HLN.out (by have := LL.out; omega))
      have hk8 : k ≤ 64 := by have := c64.out; omega
      go_wp2_with (first
        | (go_at_call 38
           refine CL.out.mono ?_
           rintro x w3 ⟨a3, c3, rfl, hs3, hb3, hf3⟩
           rw [HLN.out]
           have X3 := Lib.hid (And.intro hs3 (And.intro hb3 hf3))
           clear hs3 hb3 hf3)
        | (at_builtin
           refine wpList_append_at rfl (.tmp 20) (.tmp 23) 27 rfl w2.heap.size 32 i0 (.slice none 0 0) 1 24 Try.underlying27 hi0 hz0 hz1 hz2 rfl (by decide) (.slice la k lc) k (K.map rdV) rfl ?h1 _ _ _ [.slice a3 ln c3] rfl ?h2 ?h3 ?h4 ?h5 ?h6 ?h7 ?h8 ?_
           case h1 =>
             have h := ((Q.out.below X3.out.2.1).below (box_b w3 (.cells #[.slice a3 ln c3] 32))).own
             rw [HK.out] at h
             exact h
           case h2 => rfl
           case h3 => intro e; cases e
           case h4 => exact lit_cell _ _ _
           case h5 => intro u hu; rw [List.mem_singleton.1 hu]; rfl
           case h6 => unfold maxLen; omega
           case h7 => omega
           case h8 => have := BW.out; have := X3.out.2.1.size; simp; omega
           intro v5 w5 hown5 hgr5 hat5
           have R5 := Lib.hid (Q.out.push (s' := v5) BW.out X3.out.2.1 X3.out.1 X3.out.2.2 (box_b w3 (.cells #[.slice a3 ln c3] 32)) (by rw [HK.out, HLN.out]; exact hown5) hgr5 hat5)
           have B5 := Lib.hid (show Below w2.heap.size w2 w5 from by
             have b1 := (B3.out.trans (X3.out.2.1.mono B3.out.size)).trans ((box_b w3 (.cells #[.slice a3 ln c3] 32)).mono (Nat.le_trans B3.out.size X3.out.2.1.size))
             exact b1.grown hgr5 (Nat.le_trans (Nat.le_trans B3.out.size X3.out.2.1.size) (by simp)) (fun k h => (Q.out.own.lt k h).1))
           clear hown5 hgr5 hat5))
      go_roundw
      case rel => exact ⟨k + 1, _, by omega, by go_num, by simp [HK.out], by rw [RP.out, ← HM.out]; simp [mOf], R5.out, B5.out⟩
      case measure => simp only [intOf]; omega
    · obtain rfl : k = c := by omega
      have dk : decide ((k : Int) < (k : Int)) = false := decide_eq_false (by omega)
      have V3 := Lib.hid (V2.out.keep (Keep.ofBelow (F := fun _ => False) B3.out) (fun _ _ => id))
      have e0 : wr.cell? ⟨p, 0, none⟩ = some (.int .i64 e.me) := V3.out.c.c 0 (by decide)
      have e1 : wr.cell? ⟨p, 1, none⟩ = some (.int .i64 e.n) := V3.out.c.c 1 (by decide)
      have e2 : wr.cell? ⟨p, 2, none⟩ = some (.slice sa e.n sc) := V3.out.c.c 2 (by decide)
      have e0d : wr.drew.cell? ⟨p, 0, none⟩ = some (.int .i64 e.me) := e0
      have e1d : wr.drew.cell? ⟨p, 1, none⟩ = some (.int .i64 e.n) := e1
      have e2d : wr.drew.cell? ⟨p, 2, none⟩ = some (.slice sa e.n sc) := e2
      have CU := Lib.hid (mup_new (z := (e.n : Int)) (i := (e.me : Int)) (V3.out.s.below (drew_below wr)) (by omega) (fun r hr => by
        obtain ⟨n, e9, -, h2, h3, h4⟩ := goodM_is ok.out.S
        rw [h4 r hr]; omega) TL.out)
      have BX := Lib.hid (B2.out.trans (B3.out.mono B2.out.size))
      have BA := Lib.hid (Q.out.out HK.out HM.out)
      have FIN := Lib.hid (fun (w7 : World) (a7 : Option Addr) (c7 : Nat) (h4 : SqR (fun _ => False) wr e.n (upM (e.n : Int) e.S (e.me : Int) tt) a7 c7 w7) =>
        show w7.cell? ⟨p, 1, none⟩ = some (.int .i64 e.n) ∧ w7.cell? ⟨p, 2, none⟩ = some (.slice sa e.n sc) ∧ w7.frozen? ⟨p, 1, none⟩ = false ∧ w7.frozen? ⟨p, 2, none⟩ = false ∧ EnSend w F p (sendE e t) L k (.returned (.slice la k lc)) ((w7.setCell ⟨p, 1, none⟩ (.int .i64 e.n)).setCell ⟨p, 2, none⟩ (.slice a7 e.n c7)) from by
          have OK3 := OK2.out
          rw [HS.out] at OK3
          obtain ⟨d1, d2, f1, f2, N7, K7⟩ := V3.out.setS h4 OK3
          refine ⟨d1, d2, f1, f2, la, lc, fun k => F k ∨ (wr.heap.size ≤ k ∧ k < w7.heap.size), rfl, ?_, ?_, (Keep.ofBelow (F := F) BX.out).trans K7 (fun _ _ h => h), fun k h => h.elim Or.inl (fun h => Or.inr (Nat.le_trans BX.out.size h.1))⟩
          · have b7 := BA.out.below h4.2
            have lo := LW.out
            have s2 := B2.out.size
            have hpF : F p := V3.out.p
            have hpl := lo p hpF
            have st : ∀ (w8 : World) (o : Nat) (v : Value), BqAt (fun k => (w2.heap.size ≤ k ∧ k < wr.heap.size)) w8 la lc k (List.replicate k L) → BqAt (fun k => (w2.heap.size ≤ k ∧ k < wr.heap.size)) (w8.setCell ⟨p, o, none⟩ v) la lc k (List.replicate k L) := fun w8 o v h =>
              h.keep (G := fun j => j = p) ((Keep.refl _ _).put _ _) (fun j hj e => by omega)
            refine (st _ 2 _ (st _ 1 _ ((BA.out.mono (fun j hj hl => ⟨hl, hj⟩)).below h4.2))).mono (fun j _ hj => ⟨by omega, fun h => h.elim (fun h => by have := lo j h; omega) (fun h => by omega)⟩)
          · rw [HS.out]
            exact ⟨_, _, _, _, N7⟩)
      clear Q HK HM
      go_wp2_with fail
      go_region_law (go_simp; go_at_call 39; refine CU.out.mono ?_; rintro x w7 ⟨a7, c7, rfl, h7⟩; obtain ⟨d1, d2, f1, f2, hR⟩ := FIN.out w7 a7 c7 h7.drew; have R := Lib.hid hR; clear h7 hR)
      all_goals
        try go_simp
        go_wp2_with fail
        go_ret
        exact R.out

end Go.Proofs.Ytopnagjbdjicaaa

/-
  What the calls of full tell.
-/

/-
  Things side by side in memory: each in blocks of its own; contracts of full so told.
-/
namespace Go.Proofs.Ytopnagjbdjicaaa
open Go.RowKit

/-- What lies in blocks of A. -/
abbrev Thing := (Nat → Prop) → World → Prop
/-- It stays while others are written. -/
def Stb (R : Thing) : Prop := ∀ (A A' G : Nat → Prop) (w w' : World), R A w → Keep G w w' → (∀ k, A k → ¬ G k) → (∀ k, A k → A' k) → R A' w'
/-- Since the call began: all that is new. -/
def On (W : World) (R : Thing) (w : World) : Prop := Below W.heap.size W w ∧ R (fun k => W.heap.size ≤ k ∧ k < w.heap.size) w
theorem On.below {W w w' : World} {R : Thing} (hR : Stb R) (h : On W R w) (hb : Below w.heap.size w w') : On W R w' :=
  ⟨h.1.trans (hb.mono h.1.size), hR _ _ (fun _ => False) _ _ h.2 (Keep.ofBelow hb) (fun _ _ => id) (fun _ hk => ⟨hk.1, Nat.lt_of_lt_of_le hk.2 hb.size⟩)⟩
theorem On.mono {W w : World} {R R' : Thing} (h : On W R w) (f : ∀ A w, R A w → R' A w) : On W R' w := ⟨h.1, f _ _ h.2⟩

def Emp : Thing := fun _ _ => True
theorem stb_emp : Stb Emp := fun _ _ _ _ _ h _ _ _ => h
theorem on_emp (W : World) : On W Emp W := ⟨Below.refl _ _, trivial⟩
/-- Rows of bytes. -/
def Bq (a : Option Addr) (cap n : Nat) (m : List (List Nat)) (R : Thing) : Thing := fun A w => BqAt A w a cap n m ∧ R A w
theorem stb_bq {a : Option Addr} {cap n : Nat} {m : List (List Nat)} {R : Thing} (h : Stb R) : Stb (Bq a cap n m R) := fun A A' G w w' hb hk hA hA' =>
  ⟨(hb.1.keep hk hA).mono (fun k _ hk => hA' k hk), h A A' G w w' hb.2 hk hA hA'⟩
/-- A square. -/
def Sq (a : Option Addr) (cap n : Nat) (m : List (List Nat)) (R : Thing) : Thing := fun A w => SqAt A w a cap n m ∧ R A w
theorem stb_sq {a : Option Addr} {cap n : Nat} {m : List (List Nat)} {R : Thing} (h : Stb R) : Stb (Sq a cap n m R) := fun A A' G w w' hb hk hA hA' =>
  ⟨(hb.1.keep hk hA).mono (fun k _ hk => hA' k hk), h A A' G w w' hb.2 hk hA hA'⟩
/-- A row of counts. -/
def Sl (a : Option Addr) (cap : Nat) (xs : List Nat) (R : Thing) : Thing := fun A w => (SlAt qV QM w a cap xs ∧ ∀ ad, a = some ad → xs ≠ [] → A ad.block) ∧ R A w
theorem stb_sl {a : Option Addr} {cap : Nat} {xs : List Nat} {R : Thing} (h : Stb R) : Stb (Sl a cap xs R) := fun A A' G w w' hb hk hA hA' =>
  ⟨⟨hb.1.1.carry hk.size (fun ad e hne hlt => hk.block _ hlt (hA _ (hb.1.2 ad e hne))), fun ad e hne => hA' _ (hb.1.2 ad e hne)⟩, h A A' G w w' hb.2 hk hA hA'⟩
/-- The program's engine. -/
def Eng (p : Nat) (e : En) (R : Thing) : Thing := fun A w => ∃ F, EnAt w F p e ∧ (∀ k, F k → A k) ∧ R (fun k => A k ∧ ¬ F k) w
theorem stb_eng {p : Nat} {e : En} {R : Thing} (h : Stb R) : Stb (Eng p e R) := fun A A' G w w' hb hk hA hA' => by
  obtain ⟨F, hE, hF, hr⟩ := hb
  exact ⟨F, hE.keep hk (fun k f => hA k (hF k f)), fun k f => hA' k (hF k f), h _ _ G w w' hr hk (fun k hk => hA k hk.1) (fun k hk => ⟨hA' k hk.1, hk.2⟩)⟩
/-- The document's own engine. -/
def Den (q : Nat) (e : En) (R : Thing) : Thing := fun A w => ∃ F, DeAt w F q e ∧ (∀ k, F k → A k) ∧ R (fun k => A k ∧ ¬ F k) w
theorem stb_den {q : Nat} {e : En} {R : Thing} (h : Stb R) : Stb (Den q e R) := fun A A' G w w' hb hk hA hA' => by
  obtain ⟨F, hE, hF, hr⟩ := hb
  exact ⟨F, hE.keep hk (fun k f => hA k (hF k f)), fun k f => hA' k (hF k f), h _ _ G w w' hr hk (fun k hk => hA k hk.1) (fun k hk => ⟨hA' k hk.1, hk.2⟩)⟩
theorem eng_swap {p q : Nat} {e d : En} {R : Thing} (hR : Stb R) {A : Nat → Prop} {w : World} (h : Eng p e (Eng q d R) A w) : Eng q d (Eng p e R) A w := by
  obtain ⟨F, hE, hF, F2, hE2, hF2, hr⟩ := h
  exact ⟨F2, hE2, fun k f => (hF2 k f).1, F, hE, fun k f => ⟨hF k f, fun f2 => (hF2 k f2).2 f⟩, hR _ _ (fun _ => False) _ _ hr (Keep.refl _ _) (fun _ _ => id) (fun k hk => ⟨⟨hk.1.1, hk.2⟩, hk.1.2⟩)⟩
theorem den_swap {p q : Nat} {e d : En} {R : Thing} (hR : Stb R) {A : Nat → Prop} {w : World} (h : Eng p e (Den q d R) A w) : Den q d (Eng p e R) A w := by
  obtain ⟨F, hE, hF, F2, hE2, hF2, hr⟩ := h
  exact ⟨F2, hE2, fun k f => (hF2 k f).1, F, hE, fun k f => ⟨hF k f, fun f2 => (hF2 k f2).2 f⟩, hR _ _ (fun _ => False) _ _ hr (Keep.refl _ _) (fun _ _ => id) (fun k hk => ⟨⟨hk.1.1, hk.2⟩, hk.1.2⟩)⟩
theorem den_back {p q : Nat} {e d : En} {R : Thing} (hR : Stb R) {A : Nat → Prop} {w : World} (h : Den q d (Eng p e R) A w) : Eng p e (Den q d R) A w := by
  obtain ⟨F, hE, hF, F2, hE2, hF2, hr⟩ := h
  exact ⟨F2, hE2, fun k f => (hF2 k f).1, F, hE, fun k f => ⟨hF k f, fun f2 => (hF2 k f2).2 f⟩, hR _ _ (fun _ => False) _ _ hr (Keep.refl _ _) (fun _ _ => id) (fun k hk => ⟨⟨hk.1.1, hk.2⟩, hk.1.2⟩)⟩

section
variable {W w w' : World} {p : Nat} {e e' : En} {R : Thing}
/-- A call on the first engine. -/
theorem On.go {F F' : Nat → Prop} (hR : Stb R) (hb : Below W.heap.size W w) (hF : ∀ k, F k → W.heap.size ≤ k ∧ k < w.heap.size) (hr : R (fun k => (W.heap.size ≤ k ∧ k < w.heap.size) ∧ ¬ F k) w) (hE : EnAt w' F' p e') (hk : Keep F w w') (hg : ∀ k, F' k → F k ∨ w.heap.size ≤ k) : On W (Eng p e' R) w' := by
  have sz := hb.size
  refine ⟨hb.trans (hk.below sz (fun k f => (hF k f).1)), F', hE, fun k f => ⟨?_, hE.low k f⟩, hR _ _ F _ _ hr hk (fun k hk => hk.2) (fun k hk2 => ⟨⟨hk2.1.1, Nat.lt_of_lt_of_le hk2.1.2 hk.size⟩, fun f => ?_⟩)⟩
  · rcases hg k f with h | h
    · exact (hF k h).1
    · omega
  · rcases hg k f with h | h
    · exact hk2.2 h
    · have := hk2.1.2; omega
theorem on_new {z y : Int} {n me : Nat} (hR : Stb R) (h : On W R w) (hz : (n : Int) = z) (hy : (me : Int) = y) (h1 : 1 ≤ n) (h2 : n ≤ 16) (hm : me < n) :
    Calls Try.prog 9 #[.int .i64 z, .int .i64 y] w fun x w' => ∃ p, x = .returned (.tuple #[.pointer (some ⟨p, 0, none⟩), .int .i64 0]) ∧ On W (Eng p (newE n me) R) w' := by
  refine (en_new w hz hy h1 h2 hm).mono ?_
  rintro x w' ⟨p, F, rfl, hE, hb, hF⟩
  have sz := h.1.size
  refine ⟨p, rfl, h.1.trans (hb.mono sz), F, hE, fun k f => ⟨Nat.le_trans sz (hF k f), hE.low k f⟩, hR _ _ (fun _ => False) _ _ h.2 (Keep.ofBelow hb) (fun _ _ => id) (fun k hk => ⟨⟨hk.1, Nat.lt_of_lt_of_le hk.2 hb.size⟩, fun f => ?_⟩)⟩
  have := hF k f
  have := hk.2
  omega
theorem on_send {t : Nat} (hR : Stb R) (h : On W (Eng p e R) w) (ht : t < 18446744073709551616) {L : List Nat} (hL : stampL e.S = L) {c : Nat} (hc : (listN (toE e.n e.me t)).length = c) (he : sendE e t = e') :
    Calls Try.prog 10 #[.pointer (some ⟨p, 0, none⟩), .int .u64 (t : Int)] w fun x w' => ∃ a cap, x = .returned (.slice a c cap) ∧ On W (Eng p e' (Bq a cap c (List.replicate c L) R)) w' := by
  obtain ⟨hb, F, hE, hF, hr⟩ := h
  refine (en_send hE ht hL hc he).mono ?_
  rintro x w' ⟨a, cap, F', rfl, hB, hE', hk, hg⟩
  have h1 := On.go hR hb hF hr hE' hk hg
  have sz := hb.size
  refine ⟨a, cap, rfl, h1.1, F', hE', fun k f => ⟨?_, hE'.low k f⟩, hB.mono (fun k hk' hA => ⟨⟨by omega, hk'⟩, hA.2⟩), hR _ _ F _ _ hr hk (fun k hk => hk.2) (fun k hk2 => ⟨⟨hk2.1.1, Nat.lt_of_lt_of_le hk2.1.2 hk.size⟩, fun f => ?_⟩)⟩
  · rcases hg k f with h | h
    · exact (hF k h).1
    · omega
  · rcases hg k f with h | h
    · exact hk2.2 h
    · have := hk2.1.2; omega
theorem on_take {f num : Int} {t : Nat} {ao : Option Addr} {cap len : Nat} {bs : List Nat} (hR : Stb R) (h : On W (Eng p e R) w) (ht : t < 18446744073709551616) (hs : SlAt bV 256 w ao cap bs) (hlen : bs.length = len) (hlm : len ≤ 2000000) (hf : IntOk f) {r : Bool} (hr : canE e f bs = r) (he : takeE e f t bs = e') :
    Calls Try.prog 12 #[.pointer (some ⟨p, 0, none⟩), .int .i64 f, .int .u64 num, .int .u64 (t : Int), .slice ao len cap] w fun x w' => x = .returned (.bool r) ∧ On W (Eng p e' R) w' := by
  obtain ⟨hb, F, hE, hF, hrr⟩ := h
  refine (en_take hE ht hs hlen hlm hf hr he).mono ?_
  rintro x w' ⟨F', rfl, hE', hk, hg⟩
  exact ⟨rfl, On.go hR hb hF hrr hE' hk hg⟩
theorem on_can {f num : Int} {ao : Option Addr} {cap len : Nat} {bs : List Nat} (hR : Stb R) (h : On W (Eng p e R) w) (hs : SlAt bV 256 w ao cap bs) (hlen : bs.length = len) (hlm : len ≤ 2000000) (hf : IntOk f) {r : Bool} (hr : canE e f bs = r) :
    Calls Try.prog 13 #[.pointer (some ⟨p, 0, none⟩), .int .i64 f, .int .u64 num, .slice ao len cap] w fun x w' => x = .returned (.bool r) ∧ On W (Eng p e R) w' ∧ Below w.heap.size w w' := by
  have h0 := h
  obtain ⟨hb, F, hE, hF, hrr⟩ := h
  refine (en_can hE hs hlen hlm hf hr).mono ?_
  rintro x w' ⟨rfl, hb'⟩
  exact ⟨rfl, h0.below (stb_eng hR) hb', hb'⟩
theorem on_sent {m : List (List Nat)} (hR : Stb R) (h : On W (Eng p e R) w) (hm : e.S = m) :
    Calls Try.prog 18 #[.pointer (some ⟨p, 0, none⟩)] w fun x w' => ∃ a cap, x = .returned (.agg #[.int .i64 e.n, .slice a e.n cap]) ∧ On W (Eng p e (Sq a cap e.n m R)) w' ∧ Below w.heap.size w w' := by
  obtain ⟨hb, F, hE, hF, hrr⟩ := h
  refine (en_sent hE hm).mono ?_
  rintro x w' ⟨a, cap, rfl, hs, hb'⟩
  have sz := hb.size
  have lw := hE.low
  refine ⟨a, cap, rfl, ⟨hb.trans (hb'.mono sz), F, hE.below hb', fun k f => ⟨(hF k f).1, Nat.lt_of_lt_of_le (hF k f).2 hb'.size⟩, hs.mono (fun k hk' hA => ?_), hR _ _ (fun _ => False) _ _ hrr (Keep.ofBelow hb') (fun _ _ => id) (fun k hk => ⟨⟨hk.1.1, Nat.lt_of_lt_of_le hk.1.2 hb'.size⟩, hk.2⟩)⟩, hb'⟩
  rcases hA with hA | hA
  · exact hA.elim
  · exact ⟨⟨by omega, hk'⟩, fun f => by have := lw k f; omega⟩
theorem on_got {g : List Nat} (hR : Stb R) (h : On W (Eng p e R) w) (hg : e.G = g) :
    Calls Try.prog 16 #[.pointer (some ⟨p, 0, none⟩)] w fun x w' => ∃ a cap, x = .returned (.slice a e.n cap) ∧ On W (Eng p e (Sl a cap g R)) w' ∧ Below w.heap.size w w' := by
  obtain ⟨hb, F, hE, hF, hrr⟩ := h
  refine (en_got hE hg).mono ?_
  rintro x w' ⟨a, cap, rfl, hs, hb', hf⟩
  have sz := hb.size
  have lw := hE.low
  refine ⟨a, cap, rfl, ⟨hb.trans (hb'.mono sz), F, hE.below hb', fun k f => ⟨(hF k f).1, Nat.lt_of_lt_of_le (hF k f).2 hb'.size⟩, ⟨hs, fun ad ea hne => ?_⟩, hR _ _ (fun _ => False) _ _ hrr (Keep.ofBelow hb') (fun _ _ => id) (fun k hk => ⟨⟨hk.1.1, Nat.lt_of_lt_of_le hk.1.2 hb'.size⟩, hk.2⟩)⟩, hb'⟩
  obtain ⟨b, off, e2, hl, -⟩ := hs.at (i := 0) (List.length_pos_iff.2 hne)
  have h1 := hf ad ea
  rw [ea] at e2
  cases e2
  simp only at h1
  exact ⟨⟨by show _ ≤ b; omega, hl⟩, fun f => by have h3 : b < w.heap.size := lw _ f; omega⟩
end

/-! What is read out of it. -/
theorem eng_drop {p : Nat} {e : En} {R R' : Thing} (f : ∀ A w, R A w → R' A w) {A : Nat → Prop} {w : World} (h : Eng p e R A w) : Eng p e R' A w := by
  obtain ⟨F, hE, hF, hr⟩ := h
  exact ⟨F, hE, hF, f _ _ hr⟩
theorem den_drop {p : Nat} {e : En} {R R' : Thing} (f : ∀ A w, R A w → R' A w) {A : Nat → Prop} {w : World} (h : Den p e R A w) : Den p e R' A w := by
  obtain ⟨F, hE, hF, hr⟩ := h
  exact ⟨F, hE, hF, f _ _ hr⟩
theorem bq_drop {a : Option Addr} {cap n : Nat} {m : List (List Nat)} {R : Thing} (A : Nat → Prop) (w : World) (h : Bq a cap n m R A w) : R A w := h.2
theorem sq_drop {a : Option Addr} {cap n : Nat} {m : List (List Nat)} {R : Thing} (A : Nat → Prop) (w : World) (h : Sq a cap n m R A w) : R A w := h.2
theorem sl_drop {a : Option Addr} {cap : Nat} {xs : List Nat} {R : Thing} (A : Nat → Prop) (w : World) (h : Sl a cap xs R A w) : R A w := h.2
theorem On.bq {W w : World} {p : Nat} {e : En} {a : Option Addr} {cap n : Nat} {m : List (List Nat)} {R : Thing} (h : On W (Eng p e (Bq a cap n m R)) w) : BqAt (fun _ => True) w a cap n m := by
  obtain ⟨-, F, -, -, hb, -⟩ := h
  exact hb.mono (fun _ _ _ => trivial)
theorem On.sq {W w : World} {p : Nat} {e : En} {a : Option Addr} {cap n : Nat} {m : List (List Nat)} {R : Thing} (h : On W (Eng p e (Sq a cap n m R)) w) : SqAt (fun _ => True) w a cap n m := by
  obtain ⟨-, F, -, -, hb, -⟩ := h
  exact hb.mono (fun _ _ _ => trivial)
theorem On.sl {W w : World} {p : Nat} {e : En} {a : Option Addr} {cap : Nat} {xs : List Nat} {R : Thing} (h : On W (Eng p e (Sl a cap xs R)) w) : SlAt qV QM w a cap xs := by
  obtain ⟨-, F, -, -, hb, -⟩ := h
  exact hb.1
theorem On.ok {W w : World} {p : Nat} {e : En} {R : Thing} (h : On W (Eng p e R) w) : e.ok := by
  obtain ⟨-, F, hE, -⟩ := h
  exact hE.ok

end Go.Proofs.Ytopnagjbdjicaaa

/-
  What chapter 17 tells of two sends.
-/
namespace Go.Proofs.Ytopnagjbdjicaaa
open Go.RowKit

def E20 : En := newE 2 0
def E21 : En := ⟨2, 0, [[0, 1], [0, 0]], [0, 0]⟩
def E22 : En := ⟨2, 0, [[0, 2], [0, 0]], [0, 0]⟩
theorem e21 : sendE E20 2 = E21 := by
  have : toE 2 0 2 = 2 := by decide
  unfold sendE E20 newE E21
  simp only [this]
  congr 1
theorem e22 : sendE E21 2 = E22 := by
  have : toE 2 0 2 = 2 := by decide
  unfold sendE E21 E22
  simp only [this]
  congr 1
theorem st20 : stampL E20.S = [0, 0, 0, 0] := stampL_small (by decide)
theorem st21 : stampL E21.S = [0, 1, 0, 0] := stampL_small (by decide)
theorem rd21 : readM 2 [0, 1, 0, 0] = some [[0, 1], [0, 0]] := by
  rw [← st21]
  exact read_back (z := 2) (m := [[0, 1], [0, 0]]) (by decide) (by decide)

set_option maxRecDepth 20000 in
set_option maxHeartbeats 4000000 in
theorem fawake_any (W : World) : Calls Try.prog 8 #[] W (VOk W) := by
  go_enter Try.func8, Try.ntmps8
  go_wp2_with fail
  refine (on_new (n := 2) (me := 0) (z := 2) (y := 0) stb_emp (on_emp W) rfl rfl (by decide) (by decide) (by decide)).mono ?_
  rintro x w1 ⟨p, rfl, h1⟩
  have O := Lib.hid h1
  clear h1
  go_wp2_with fail
  have c1 : (w1.alloc (.cells #[.int .i64 1] 3)).cell? ⟨w1.heap.size, 0, none⟩ = some (.int .i64 1) := by simp
  refine (of_cell (x := 1) (s := 2) c1 ⟨by decide, by decide⟩ (by decide)).mono ?_
  rintro x w' ⟨rfl, rfl⟩
  have O2 := Lib.hid (O.out.below (stb_eng stb_emp) (box_b w1 (.cells #[.int .i64 1] 3)))
  clear c1 O
  generalize w1.alloc (.cells #[.int .i64 1] 3) = w2 at *
  go_wp2_with fail
  refine (on_send (t := 2) stb_emp O2.out (by decide) st20 (c := 1) (by decide) e21).mono ?_
  rintro x w3 ⟨a3, c3, rfl, h3⟩
  have O3 := Lib.hid (h3.mono (fun _ _ => eng_drop bq_drop))
  clear O2 h3
  go_wp2_with fail
  have c1 : (w3.alloc (.cells #[.int .i64 1] 3)).cell? ⟨w3.heap.size, 0, none⟩ = some (.int .i64 1) := by simp
  refine (of_cell (x := 1) (s := 2) c1 ⟨by decide, by decide⟩ (by decide)).mono ?_
  rintro x w' ⟨rfl, rfl⟩
  have O4 := Lib.hid (O3.out.below (stb_eng stb_emp) (box_b w3 (.cells #[.int .i64 1] 3)))
  clear c1 O3
  generalize w3.alloc (.cells #[.int .i64 1] 3) = w4 at *
  go_wp2_with fail
  refine (on_send (t := 2) stb_emp O4.out (by decide) st21 (c := 1) (by decide) e22).mono ?_
  rintro x w5 ⟨a5, c5, rfl, h5⟩
  have O5 := Lib.hid h5
  obtain ⟨b, off, ra, rc, rfl, hc, hs, -⟩ := h5.bq.row (i := 0) (by decide)
  have hc' : w5.cell? ⟨b, off + 0, none⟩ = some (.slice ra 4 rc) := hc
  have hc2 : w5.cell? ⟨b, off, none⟩ = some (.slice ra 4 rc) := hc
  have S5 := Lib.hid (show SlAt bV 256 w5 ra rc [0, 1, 0, 0] from hs)
  clear O4 h5 hs hc
  go_wp2_with fail
  refine (read_at (z := 2) S5.out rfl (by decide) rd21).mono ?_
  rintro x w6 hR
  obtain ⟨a6, c6, rfl, hs6, hb6⟩ := hR.some
  have Q6 := Lib.hid (show SqAt _ w6 a6 c6 2 [[0, 1], [0, 0]] from hs6)
  have O6 := Lib.hid (O5.out.below (stb_eng (stb_bq stb_emp)) hb6)
  clear hR hs6 hb6 O5 S5 hc' hc2
  have M := Lib.hid (MtV.new (z := 2) Q6.out 37)
  have O7 := Lib.hid (O6.out.below (stb_eng (stb_bq stb_emp)) (box_b w6 (.cells #[.int .i64 2, .slice a6 2 c6] 37)))
  have k0 := M.out.c0
  have k1 := M.out.c1
  go_wp2_with fail
  generalize w6.alloc (.cells #[.int .i64 2, .slice a6 2 c6] 37) = w7 at *
  generalize w6.heap.size = pm at *
  clear O6 Q6 k0 k1
  refine (mat_any (i := 0) (j := 1) (z := 2) (v := 1) M.out.s (by decide)).mono ?_
  rintro x w8 ⟨rfl, hb8⟩
  have O8 := Lib.hid (O7.out.below (stb_eng (stb_bq stb_emp)) hb8)
  clear O7 hb8
  go_wp2_with fail
  refine (on_sent (m := [[0, 2], [0, 0]]) (stb_bq stb_emp) O8.out rfl).mono ?_
  rintro x w9 ⟨a9, c9, rfl, h9, hb9⟩
  have O9 := Lib.hid h9
  clear h9 hb9 O8
  go_wp2_with fail
  refine (mat_any (i := 0) (j := 1) (v := 2) O9.out.sq (by decide)).mono ?_
  rintro x w10 ⟨rfl, hb10⟩
  have B := Lib.hid (O9.out.1.trans (hb10.mono O9.out.1.size))
  clear hb10 O9
  go_wp2_with fail
  go_ret
  exact ⟨rfl, B.out⟩

end Go.Proofs.Ytopnagjbdjicaaa

/-
  A row of the call's own that keeps what was told; what is laid or grown within.
-/
namespace Go.Proofs.Ytopnagjbdjicaaa
open Go.RowKit

/-- A row s of slices of bytes, its own block, rows L in other blocks. -/
def Tl (s : Value) (L : List Rd) (R : Thing) : Thing := fun A w =>
  w.ownsRow 0 32 1 s L.length (L.map rdV) ∧ (∀ k, s.ownBlock = some k → A k) ∧ (∀ r ∈ L, SlAt bV 256 w r.a r.c r.l ∧ ∀ ad, r.a = some ad → r.l ≠ [] → A ad.block ∧ s.ownBlock ≠ some ad.block) ∧ R (fun k => A k ∧ s.ownBlock ≠ some k) w
theorem stb_tl {s : Value} {L : List Rd} {R : Thing} (h : Stb R) : Stb (Tl s L R) := fun A A' G w w' hb hk hA hA' => by
  obtain ⟨h1, h2, h3, h4⟩ := hb
  refine ⟨own_carry h1 fun k e => hk.block k (h1.lt k e).2 (hA k (h2 k e)), fun k e => hA' k (h2 k e), fun r hr => ⟨(h3 r hr).1.carry hk.size (fun ad e hne hlt => hk.block _ hlt (hA _ ((h3 r hr).2 ad e hne).1)), fun ad e hne => ⟨hA' _ ((h3 r hr).2 ad e hne).1, ((h3 r hr).2 ad e hne).2⟩⟩, h _ _ G w w' h4 hk (fun k hk => hA k hk.1) (fun k hk => ⟨hA' k hk.1, hk.2⟩)⟩
theorem tl_nil {R : Thing} (hR : Stb R) {A : Nat → Prop} {w : World} (h : R A w) : Tl (.slice none 0 0) [] R A w :=
  ⟨World.ownsRow_nil _ _ _ _, (fun k e => by simp [Value.ownBlock] at e), by simp, hR A _ (fun _ => False) w w h (Keep.refl _ _) (fun _ _ => id) (fun _ hk => ⟨hk, by simp [Value.ownBlock]⟩)⟩
theorem tl_drop {s : Value} {L : List Rd} {R R' : Thing} (f : ∀ A w, R A w → R' A w) (A : Nat → Prop) (w : World) (h : Tl s L R A w) : Tl s L R' A w := ⟨h.1, h.2.1, h.2.2.1, f _ _ h.2.2.2⟩

/-! What a call gives is laid within. -/
def Ins (N : Nat) (Fr : Nat → Prop) (w : World) (R R' : Thing) : Prop := ∀ A A' : Nat → Prop, R A w → (∀ k, A k → k < N) → (∀ k, A k → A' k) → (∀ k, Fr k → A' k) → R' A' w
theorem ins_bq {N : Nat} {Fr : Nat → Prop} {w : World} {a : Option Addr} {cap n : Nat} {m : List (List Nat)} {R : Thing} (hR : Stb R) (h : BqAt Fr w a cap n m) : Ins N Fr w R (Bq a cap n m R) := fun A A' hr _ hA hF =>
  ⟨h.mono (fun k _ hk => hF k hk), hR A A' (fun _ => False) w w hr (Keep.refl _ _) (fun _ _ => id) hA⟩
theorem ins_eng {N : Nat} {Fr : Nat → Prop} {w : World} {q : Nat} {d : En} {R R' : Thing} (hN : ∀ k, Fr k → N ≤ k) (h : Ins N Fr w R R') : Ins N Fr w (Eng q d R) (Eng q d R') := fun A A' hr hl hA hF => by
  obtain ⟨F, hE, hF2, hr⟩ := hr
  exact ⟨F, hE, fun k f => hA k (hF2 k f), h _ _ hr (fun k hk => hl k hk.1) (fun k hk => ⟨hA k hk.1, hk.2⟩) (fun k hk => ⟨hF k hk, fun f => by have := hl k (hF2 k f); have := hN k hk; omega⟩)⟩
theorem ins_den {N : Nat} {Fr : Nat → Prop} {w : World} {q : Nat} {d : En} {R R' : Thing} (hN : ∀ k, Fr k → N ≤ k) (h : Ins N Fr w R R') : Ins N Fr w (Den q d R) (Den q d R') := fun A A' hr hl hA hF => by
  obtain ⟨F, hE, hF2, hr⟩ := hr
  exact ⟨F, hE, fun k f => hA k (hF2 k f), h _ _ hr (fun k hk => hl k hk.1) (fun k hk => ⟨hA k hk.1, hk.2⟩) (fun k hk => ⟨hF k hk, fun f => by have := hl k (hF2 k f); have := hN k hk; omega⟩)⟩
theorem ins_tl {N : Nat} {Fr : Nat → Prop} {w : World} {s : Value} {L : List Rd} {R R' : Thing} (hN : ∀ k, Fr k → N ≤ k) (h : Ins N Fr w R R') : Ins N Fr w (Tl s L R) (Tl s L R') := fun A A' hr hl hA hF => by
  obtain ⟨h1, h2, h3, h4⟩ := hr
  exact ⟨h1, fun k e => hA k (h2 k e), fun r hr => ⟨(h3 r hr).1, fun ad e hne => ⟨hA _ ((h3 r hr).2 ad e hne).1, ((h3 r hr).2 ad e hne).2⟩⟩, h _ _ h4 (fun k hk => hl k hk.1) (fun k hk => ⟨hA k hk.1, hk.2⟩) (fun k hk => ⟨hF k hk, fun e => by have := hl k (h2 k e); have := hN k hk; omega⟩)⟩
theorem on_send_in {W w : World} {p : Nat} {e e' : En} {R : Thing} {R' : Option Addr → Nat → Thing} {t : Nat} (hR : Stb R) (h : On W (Eng p e R) w) (ht : t < 18446744073709551616) {L : List Nat} (hL : stampL e.S = L) {c : Nat} (hc : (listN (toE e.n e.me t)).length = c) (he : sendE e t = e')
    (hI : ∀ (w' : World) (N : Nat) (Fr : Nat → Prop) (a : Option Addr) (cap : Nat), (∀ k, Fr k → N ≤ k) → BqAt Fr w' a cap c (List.replicate c L) → Ins N Fr w' R (R' a cap)) :
    Calls Try.prog 10 #[.pointer (some ⟨p, 0, none⟩), .int .u64 (t : Int)] w fun x w' => ∃ a cap, x = .returned (.slice a c cap) ∧ On W (Eng p e' (R' a cap)) w' := by
  obtain ⟨hb, F, hE, hF, hr⟩ := h
  refine (en_send hE ht hL hc he).mono ?_
  rintro x w' ⟨a, cap, F', rfl, hB, hE', hk, hg⟩
  have sz := hb.size
  have lw := hE'.low
  refine ⟨a, cap, rfl, hb.trans (hk.below sz (fun k f => (hF k f).1)), F', hE', fun k f => ⟨?_, lw k f⟩, ?_⟩
  · rcases hg k f with h | h
    · exact (hF k h).1
    · omega
  · refine hI w' w.heap.size (fun k => (w.heap.size ≤ k ∧ k < w'.heap.size) ∧ ¬ F' k) a cap (fun k hk => hk.1.1) (hB.mono (fun k hk' hA => ⟨⟨hA.1, hk'⟩, hA.2⟩)) (fun k => (W.heap.size ≤ k ∧ k < w.heap.size) ∧ ¬ F k) _ (hR _ _ F _ _ hr hk (fun k hk => hk.2) (fun _ hk => hk)) (fun k hk => hk.1.2) (fun k hk2 => ⟨⟨hk2.1.1, Nat.lt_of_lt_of_le hk2.1.2 hk.size⟩, fun f => ?_⟩) (fun k hk => ⟨⟨by omega, hk.1.2⟩, hk.2⟩)
    rcases hg k f with h | h
    · exact hk2.2 h
    · have := hk2.1.2; omega

/-! What lies within is written. -/
def Upd (G : Nat → Prop) (w w' : World) (R R' : Thing) : Prop := (∀ A, R A w → ∀ k, G k → k < w.heap.size → A k) ∧ ∀ A A' : Nat → Prop, R A w → (∀ k, A k → k < w.heap.size) → (∀ k, A k → A' k) → (∀ k, w.heap.size ≤ k → k < w'.heap.size → A' k) → R' A' w'
theorem upd_eng {G : Nat → Prop} {w w' : World} {R R' : Thing} {q : Nat} {d : En} (hk : Keep G w w') (h : Upd G w w' R R') : Upd G w w' (Eng q d R) (Eng q d R') := by
  refine ⟨fun A hr k g hl => ?_, fun A A' hr hB hA hF => ?_⟩
  · obtain ⟨F, hE, hF2, hr⟩ := hr
    exact (h.1 _ hr k g hl).1
  · obtain ⟨F, hE, hF2, hr⟩ := hr
    have lw := hE.low
    exact ⟨F, hE.keep hk (fun k f g => (h.1 _ hr k g (lw k f)).2 f), fun k f => hA k (hF2 k f), h.2 _ _ hr (fun k hk => hB k hk.1) (fun k hk => ⟨hA k hk.1, hk.2⟩) (fun k h1 h2 => ⟨hF k h1 h2, fun f => by have := lw k f; omega⟩)⟩
theorem upd_den {G : Nat → Prop} {w w' : World} {R R' : Thing} {q : Nat} {d : En} (hk : Keep G w w') (h : Upd G w w' R R') : Upd G w w' (Den q d R) (Den q d R') := by
  refine ⟨fun A hr k g hl => ?_, fun A A' hr hB hA hF => ?_⟩
  · obtain ⟨F, hE, hF2, hr⟩ := hr
    exact (h.1 _ hr k g hl).1
  · obtain ⟨F, hE, hF2, hr⟩ := hr
    have lw := hE.low
    exact ⟨F, hE.keep hk (fun k f g => (h.1 _ hr k g (lw k f)).2 f), fun k f => hA k (hF2 k f), h.2 _ _ hr (fun k hk => hB k hk.1) (fun k hk => ⟨hA k hk.1, hk.2⟩) (fun k h1 h2 => ⟨hF k h1 h2, fun f => by have := lw k f; omega⟩)⟩
theorem On.upd {W w w' : World} {G : Nat → Prop} {R R' : Thing} (h : On W R w) (hk : Keep G w w') (hu : Upd G w w' R R') (hG : ∀ k, G k → W.heap.size ≤ k ∨ w.heap.size ≤ k) : On W R' w' := by
  have sz := h.1.size
  exact ⟨h.1.trans (hk.below sz (fun k g => (hG k g).elim id (fun h => by omega))), hu.2 _ _ h.2 (fun k hk2 => hk2.2) (fun k hk2 => ⟨hk2.1, Nat.lt_of_lt_of_le hk2.2 hk.size⟩) (fun k h1 h2 => ⟨by omega, h2⟩)⟩
/-- One more row is told: one of those that lie within. -/
theorem upd_tl {w w' : World} {s s' : Value} {L : List Rd} {R : Thing} {a : Option Addr} {cap n i : Nat} {m : List (List Nat)} {b off rc : Nat} {ra : Option Addr} (hR : Stb R) (hi : i < n) (ha : a = some ⟨b, off, none⟩) (hc : w.cell? ⟨b, off + i, none⟩ = some (.slice ra (m.getD i []).length rc))
    (hgr : w.grownBy w' s.ownBlock) (hown : w'.ownsRow 0 32 1 s' (L.length + 1) (L.map rdV ++ [.slice ra (m.getD i []).length rc])) (hat : ∀ j, s'.ownBlock = some j → s.ownBlock = some j ∨ w.heap.size ≤ j) :
    Upd (fun k => s.ownBlock = some k) w w' (Tl s L (Bq a cap n m R)) (Tl s' (L ++ [⟨ra, rc, m.getD i []⟩]) (Bq a cap n m R)) := by
  have kk : Keep (fun k => s.ownBlock = some k) w w' := (Keep.refl _ _).grown hgr (fun j h => Or.inl h)
  refine ⟨fun A hr k g _ => hr.2.1 k g, fun A A' hr hBd hA hF => ?_⟩
  obtain ⟨h1, h2, h3, hB, h5⟩ := hr
  have hrow := hB.row hi
  obtain ⟨b', off', ra', rc', e1, e2, e3, e4⟩ := hrow
  rw [ha] at e1
  cases e1
  rw [hc] at e2
  simp only [Option.some.injEq, Value.slice.injEq, true_and] at e2
  obtain ⟨rfl, rfl⟩ := e2
  have fresh : ∀ k, k < w.heap.size → s.ownBlock ≠ some k → s'.ownBlock ≠ some k := fun k hk hn e => (hat k e).elim hn (fun h => by omega)
  have inside : ∀ (x : Option Addr) (c : Nat) (l : List Nat), SlAt bV 256 w x c l → ∀ ad, x = some ad → l ≠ [] → ad.block < w.heap.size := fun x c l hs ad e hne => by
    obtain ⟨b9, off9, e9, hl9, -⟩ := hs.cell 0 (List.length_pos_iff.2 hne)
    rw [e] at e9
    cases e9
    exact hl9
  refine ⟨by rw [List.length_append, List.map_append]; exact hown, fun k e => ?_, fun r hr => ?_, ?_⟩
  · rcases hat k e with h | h
    · exact hA k (h2 k h)
    · exact hF k h (hown.lt k e).2
  · rcases List.mem_append.1 hr with hr | hr
    · obtain ⟨t1, t2⟩ := h3 r hr
      refine ⟨t1.carry kk.size (fun ad e hne hlt => kk.block _ hlt (t2 ad e hne).2), fun ad e hne => ⟨hA _ (t2 ad e hne).1, fresh _ (inside _ _ _ t1 ad e hne) (t2 ad e hne).2⟩⟩
    · rw [List.mem_singleton.1 hr]
      refine ⟨e3.carry kk.size (fun ad e hne hlt => kk.block _ hlt (e4 ad e hne).2), fun ad e hne => ⟨hA _ (e4 ad e hne).1, fresh _ (inside _ _ _ e3 ad e hne) (e4 ad e hne).2⟩⟩
  · have hst := stb_bq (a := some ⟨b, off, none⟩) (cap := cap) (n := n) (m := m) hR
    subst ha
    exact hst _ _ (fun k => s.ownBlock = some k) w w' ⟨hB, h5⟩ kk (fun k hk => hk.2) (fun k hk => ⟨hA k hk.1, fresh k (hBd k hk.1) hk.2⟩)

/-! What is read out of it. -/
theorem Tl.row {s : Value} {L : List Rd} {R : Thing} {A : Nat → Prop} {w : World} (h : Tl s L R A w) {i : Nat} (hi : i < L.length) : ∃ g cap, s = .slice (some ⟨g, 0, none⟩) L.length cap ∧ w.cell? ⟨g, i, none⟩ = some (.slice L[i].a L[i].l.length L[i].c) ∧ SlAt bV 256 w L[i].a L[i].c L[i].l := by
  obtain ⟨g, cap, e, -, -⟩ := h.1.form (by omega)
  have ho := h.1
  rw [e] at ho
  have hc := ho.cellAt i (by omega)
  rw [List.getElem?_map, List.getElem?_eq_getElem hi] at hc
  exact ⟨g, cap, e, hc, (h.2.2.1 _ (List.getElem_mem _)).1⟩
theorem Tl.look {s : Value} {L : List Rd} {R : Thing} {A : Nat → Prop} {w : World} (h : Tl s L R A w) {i : Nat} (hi : i < L.length) {xs : List Nat} (hx : L[i].l = xs) : ∃ g cap, s = .slice (some ⟨g, 0, none⟩) L.length cap ∧ w.cell? ⟨g, i, none⟩ = some (.slice L[i].a xs.length L[i].c) ∧ SlAt bV 256 w L[i].a L[i].c xs := by
  subst hx
  exact h.row hi
theorem eng_in {p : Nat} {e : En} {R : Thing} {A : Nat → Prop} {w : World} (h : Eng p e R A w) : ∃ A', (∀ k, A' k → A k) ∧ R A' w := by
  obtain ⟨F, -, -, hr⟩ := h
  exact ⟨_, fun k hk => hk.1, hr⟩
theorem den_in {p : Nat} {e : En} {R : Thing} {A : Nat → Prop} {w : World} (h : Den p e R A w) : ∃ A', (∀ k, A' k → A k) ∧ R A' w := by
  obtain ⟨F, -, -, hr⟩ := h
  exact ⟨_, fun k hk => hk.1, hr⟩
theorem tl_in {s : Value} {L : List Rd} {R : Thing} {A : Nat → Prop} {w : World} (h : Tl s L R A w) : ∃ A', (∀ k, A' k → A k) ∧ R A' w := ⟨_, fun _ hk => hk.1, h.2.2.2⟩
/-- Two engines and a row of what was told. -/
theorem On.tl2 {W w : World} {p q : Nat} {e d : En} {s : Value} {L : List Rd} {R : Thing} (h : On W (Eng p e (Eng q d (Tl s L R))) w) : ∃ A, (∀ k, A k → W.heap.size ≤ k ∧ k < w.heap.size) ∧ Tl s L R A w := by
  obtain ⟨A1, h1, h2⟩ := eng_in h.2
  obtain ⟨A2, h3, h4⟩ := eng_in h2
  exact ⟨A2, fun k hk => h1 k (h3 k hk), h4⟩

end Go.Proofs.Ytopnagjbdjicaaa

/-
  What is known only grows (pure); a variable that holds a square.
-/
namespace Go.Proofs.Ytopnagjbdjicaaa
open Go.RowKit

theorem wrapJ {z : Int} (h : -9223372036854775808 ≤ z ∧ z ≤ 9223372036854775807) : IntKind.i64.wrap z = z := by
  simp only [IntKind.wrap, IntKind.bits, IntKind.signed]
  simp
  omega
/-- At most one more, at one place. -/
def StepG (G G' : List Nat) : Prop := G'.length = G.length ∧ ∃ j d, d ≤ 1 ∧ ∀ k, atN G' k = atN G k + if k = j then d else 0
theorem stepG_same (G : List Nat) : StepG G G := ⟨rfl, 0, 0, by decide, fun k => by split <;> rfl⟩
theorem stepG_up {G : List Nat} {j : Nat} (h : j < G.length) : StepG G (upR G (j : Int)) := by
  refine ⟨upR_same h, ?_⟩
  cases hb : mayUp G (j : Int)
  · rw [upR_no hb]
    exact (stepG_same G).2
  · rw [upR_yes hb]
    exact ⟨j, 1, Nat.le_refl _, fun k => upL_at G j k⟩
theorem wiM_of {z : Int} {m1 m2 : List (List Nat)} (g1 : goodM z m1 = true) (g2 : goodM z m2 = true) (h : ∀ i k, i < m1.length → atN (m1.getD i []) k ≤ atN (m2.getD i []) k) : wiM z m1 z m2 = true := by
  have hb : bothM z m1 z m2 = true := by unfold bothM; rw [g1, g2, decide_eq_true rfl]; rfl
  rw [wiM_yes hb]
  exact decide_eq_true fun i hi => wiB_iff.2 fun k => h i k hi
theorem incL_ge (xs : List Nat) (t k i : Nat) : atN xs i ≤ atN (incL xs t k) i := by
  rw [incL_at]
  by_cases h : i < xs.length
  · rw [if_pos h]; omega
  · rw [if_neg h, atN_out (by omega)]; exact Nat.le_refl _
theorem upM_ge {z : Int} {m : List (List Nat)} {i : Int} {t : Nat} (g : goodM z m = true) (r k : Nat) : atN (m.getD r []) k ≤ atN ((upM z m i t).getD r []) k := by
  by_cases hi : goodM z m = true ∧ 0 ≤ i ∧ i < z
  · obtain ⟨n, rfl, h1, h2, h3, h4⟩ := goodM_is g
    obtain ⟨j, rfl⟩ : ∃ j : Nat, i = j := ⟨i.toNat, by omega⟩
    rw [upM_yes g (by omega)]
    rw [List.getD, List.getD, List.getElem?_set]
    by_cases e : j = r
    · subst e
      rw [if_pos rfl, if_pos (by omega)]
      exact incL_ge _ _ _ _
    · rw [if_neg e]; exact Nat.le_refl _
  · rw [upM_no hi]; exact Nat.le_refl _
theorem joinM_ge {a b : List (List Nat)} {r : Nat} (hr : r < a.length) (k : Nat) : atN (a.getD r []) k ≤ atN ((joinM a b).getD r []) k := by
  have e : (joinM a b).getD r [] = joinL (a.getD r []) (b.getD r []) := by
    rw [List.getD, List.getElem?_eq_getElem (by rw [joinM_len]; exact hr)]
    simp [joinM, hr]
  rw [e, joinL_at]
  exact Nat.le_max_left _ _
theorem send_grow {e : En} (ok : e.ok) (t : Nat) : (sendE e t).n = e.n ∧ StepG e.G (sendE e t).G ∧ wiM (e.n : Int) e.S (e.n : Int) (sendE e t).S = true :=
  ⟨rfl, stepG_same _, wiM_of ok.S (sendE_ok ok t).S fun i k _ => upM_ge ok.S i k⟩
theorem take_grow {e : En} (ok : e.ok) (f : Int) (t : Nat) (b : List Nat) : (takeE e f t b).n = e.n ∧ StepG e.G (takeE e f t b).G ∧ wiM (e.n : Int) e.S (e.n : Int) (takeE e f t b).S = true := by
  cases hc : canE e f b
  · rw [takeE_no hc]
    exact ⟨rfl, stepG_same _, wiM_of ok.S ok.S fun _ _ _ => Nat.le_refl _⟩
  · have ok2 := takeE_ok ok f t b
    obtain ⟨m, hm, h1, h2, h3, -⟩ := canE_is hc
    rw [takeE_yes hc hm] at ok2 ⊢
    obtain ⟨j, rfl⟩ : ∃ j : Nat, f = j := ⟨f.toNat, by omega⟩
    exact ⟨rfl, stepG_up (by rw [ok.G]; omega), wiM_of ok.S ok2.S fun i k hi => joinM_ge hi k⟩

/-- A variable that holds a square. -/
def Ce (p : Nat) (z : Int) (s : Value) (R : Thing) : Thing := fun A w => (Cel 2 w p (mkC z s) ∧ A p) ∧ R A w
theorem stb_ce {p : Nat} {z : Int} {s : Value} {R : Thing} (h : Stb R) : Stb (Ce p z s R) := fun A A' G w w' hb hk hA hA' =>
  ⟨⟨hb.1.1.keep hk (hA p hb.1.2), hA' p hb.1.2⟩, h A A' G w w' hb.2 hk hA hA'⟩
theorem On.box {W w : World} {p : Nat} {e : En} {R : Thing} (hR : Stb R) (h : On W (Eng p e R) w) (z : Int) (s : Value) (t : TypeId) : On W (Eng p e (Ce w.heap.size z s R)) (w.alloc (.cells #[.int .i64 z, s] t)) := by
  have hb := box_b w (.cells #[.int .i64 z, s] t)
  refine h.upd (G := fun _ => False) (Keep.ofBelow hb) (upd_eng (Keep.ofBelow hb) ⟨fun _ _ _ g => g.elim, fun A A' hr _ hA hF => ⟨⟨box_new w z s t, hF _ (Nat.le_refl _) (by simp)⟩, hR A A' (fun _ => False) _ _ hr (Keep.ofBelow hb) (fun _ _ => id) hA⟩⟩) (fun _ g => g.elim)
theorem On.get {W w : World} {p : Nat} {e : En} {R : Thing} (h : On W (Eng p e R) w) : ∃ A, R A w := by
  obtain ⟨-, F, -, -, hr⟩ := h
  exact ⟨_, hr⟩

end Go.Proofs.Ytopnagjbdjicaaa

/-
  The document's own engine as a thing; its calls so told; what is read out of it.
-/
namespace Go.Proofs.Ytopnagjbdjicaaa
open Go.RowKit

/-- A slice of bytes. -/
def Byt (a : Option Addr) (cap : Nat) (xs : List Nat) (R : Thing) : Thing := fun A w => (SlAt bV 256 w a cap xs ∧ ∀ ad, a = some ad → xs ≠ [] → A ad.block) ∧ R A w
theorem stb_byt {a : Option Addr} {cap : Nat} {xs : List Nat} {R : Thing} (h : Stb R) : Stb (Byt a cap xs R) := fun A A' G w w' hb hk hA hA' =>
  ⟨⟨hb.1.1.carry hk.size (fun ad e hne hlt => hk.block _ hlt (hA _ (hb.1.2 ad e hne))), fun ad e hne => hA' _ (hb.1.2 ad e hne)⟩, h A A' G w w' hb.2 hk hA hA'⟩
theorem byt_drop {a : Option Addr} {cap : Nat} {xs : List Nat} {R : Thing} (A : Nat → Prop) (w : World) (h : Byt a cap xs R A w) : R A w := h.2

/-- Bytes that lie apart from the rest. -/
def Byx (a : Option Addr) (cap : Nat) (xs : List Nat) (R : Thing) : Thing := fun A w => (SlAt bV 256 w a cap xs ∧ ∀ ad, a = some ad → xs ≠ [] → A ad.block) ∧ R (fun k => A k ∧ ∀ ad, a = some ad → xs ≠ [] → k ≠ ad.block) w
theorem stb_byx {a : Option Addr} {cap : Nat} {xs : List Nat} {R : Thing} (h : Stb R) : Stb (Byx a cap xs R) := fun _ _ G w w' hb hk hA hA' =>
  ⟨⟨hb.1.1.carry hk.size (fun ad e hne hlt => hk.block _ hlt (hA _ (hb.1.2 ad e hne))), fun ad e hne => hA' _ (hb.1.2 ad e hne)⟩, h _ _ G w w' hb.2 hk (fun k hk => hA k hk.1) (fun k hk => ⟨hA' k hk.1, hk.2⟩)⟩

section
variable {W w w' : World} {q : Nat} {d d' : En} {R : Thing}
theorem On.dgo {F F' : Nat → Prop} (hR : Stb R) (hb : Below W.heap.size W w) (hF : ∀ k, F k → W.heap.size ≤ k ∧ k < w.heap.size) (hr : R (fun k => (W.heap.size ≤ k ∧ k < w.heap.size) ∧ ¬ F k) w) (hE : DeAt w' F' q d') (hk : Keep F w w') (hg : ∀ k, F' k → F k ∨ w.heap.size ≤ k) : On W (Den q d' R) w' := by
  have sz := hb.size
  refine ⟨hb.trans (hk.below sz (fun k f => (hF k f).1)), F', hE, fun k f => ⟨?_, hE.low k f⟩, hR _ _ F _ _ hr hk (fun k hk => hk.2) (fun k hk2 => ⟨⟨hk2.1.1, Nat.lt_of_lt_of_le hk2.1.2 hk.size⟩, fun f => ?_⟩)⟩
  · rcases hg k f with h | h
    · exact (hF k h).1
    · omega
  · rcases hg k f with h | h
    · exact hk2.2 h
    · have := hk2.1.2; omega
theorem on_begun {z y : Int} {n me : Nat} (hR : Stb R) (h : On W R w) (hz : (n : Int) = z) (hy : (me : Int) = y) (h1 : 1 ≤ n) (h2 : n ≤ 16) (hm : me < n) :
    Calls Try.prog 20 #[.int .i64 z, .int .i64 y] w fun x w' => ∃ q, x = .returned (.pointer (some ⟨q, 0, none⟩)) ∧ On W (Den q (newE n me) R) w' := by
  refine (begun_at w hz hy h1 h2 hm).mono ?_
  rintro x w' ⟨q, F, rfl, hE, hb, hF⟩
  have sz := h.1.size
  refine ⟨q, rfl, h.1.trans (hb.mono sz), F, hE, fun k f => ⟨Nat.le_trans sz (hF k f), hE.low k f⟩, hR _ _ (fun _ => False) _ _ h.2 (Keep.ofBelow hb) (fun _ _ => id) (fun k hk => ⟨⟨hk.1, Nat.lt_of_lt_of_le hk.2 hb.size⟩, fun f => ?_⟩)⟩
  have := hF k f
  have := hk.2
  omega
theorem on_dsend {t : Nat} (hR : Stb R) (h : On W (Den q d R) w) (ht : t < 18446744073709551616) {L : List Nat} (hL : stampL d.S = L) {c : Nat} (hc : (listN (toE d.n d.me t)).length = c) (he : sendE d t = d') :
    Calls Try.prog 21 #[.pointer (some ⟨q, 0, none⟩), .int .u64 (t : Int)] w fun x w' => ∃ a cap, x = .returned (.tuple #[.slice a L.length cap, .int .i64 (c : Int)]) ∧ On W (Den q d' (Byx a cap L R)) w' := by
  subst he
  obtain ⟨hb, F, hE, hF, hr⟩ := h
  refine (dsend_at hE ht hL hc).mono ?_
  rintro x w' ⟨a, cap, F', rfl, hS, hE', hk, hg, hl⟩
  have h1 := On.dgo hR hb hF hr hE' hk hg
  have sz := hb.size
  refine ⟨a, cap, rfl, h1.1, F', hE', fun k f => ⟨?_, hE'.low k f⟩, ⟨hS, fun ad e hne => ?_⟩, hR _ _ F _ _ hr hk (fun k hk => hk.2) (fun k hk2 => ⟨⟨⟨hk2.1.1, Nat.lt_of_lt_of_le hk2.1.2 hk.size⟩, fun f => ?_⟩, fun ad e hne ek => by have := (hl ad e hne).1; have := hk2.1.2; omega⟩)⟩
  · rcases hg k f with h | h
    · exact (hF k h).1
    · omega
  · obtain ⟨b, off, e2, hlt, -⟩ := hS.cell 0 (List.length_pos_iff.2 hne)
    obtain ⟨g1, g2⟩ := hl ad e hne
    rw [e] at e2
    cases e2
    exact ⟨⟨Nat.le_trans sz g1, hlt⟩, g2⟩
  · rcases hg k f with h | h
    · exact hk2.2 h
    · have := hk2.1.2; omega
theorem on_dtake {f : Int} {t : Nat} {ao : Option Addr} {cap len : Nat} {bs : List Nat} (hR : Stb R) (h : On W (Den q d R) w) (ht : t < 18446744073709551616) (hs : SlAt bV 256 w ao cap bs) (hlen : bs.length = len) {r : Bool} (hr : canE d f bs = r) (he : takeE d f t bs = d') :
    Calls Try.prog 22 #[.pointer (some ⟨q, 0, none⟩), .int .i64 f, .int .u64 (t : Int), .slice ao len cap] w fun x w' => x = .returned (.bool r) ∧ On W (Den q d' R) w' := by
  subst he
  obtain ⟨hb, F, hE, hF, hrr⟩ := h
  refine (dtake_at hE ht hs hlen hr).mono ?_
  rintro x w' ⟨F', rfl, hE', hk, hg⟩
  exact ⟨rfl, On.dgo hR hb hF hrr hE' hk hg⟩
theorem on_dcan {f : Int} {ao : Option Addr} {cap len : Nat} {bs : List Nat} (hR : Stb R) (h : On W (Den q d R) w) (hs : SlAt bV 256 w ao cap bs) (hlen : bs.length = len) {r : Bool} (hr : canE d f bs = r) :
    Calls Try.prog 23 #[.pointer (some ⟨q, 0, none⟩), .int .i64 f, .slice ao len cap] w fun x w' => x = .returned (.bool r) ∧ On W (Den q d R) w' ∧ Below w.heap.size w w' := by
  have h0 := h
  obtain ⟨hb, F, hE, hF, hrr⟩ := h
  refine (dcan_at hE hs hlen hr).mono ?_
  rintro x w' ⟨rfl, hb'⟩
  exact ⟨rfl, h0.below (stb_den hR) hb', hb'⟩
/-- Its fields, its square, its row. -/
theorem On.den (h : On W (Den q d R) w) : ∃ sa sc ga gc, w.cell? ⟨q, 2, none⟩ = some (.slice sa d.n sc) ∧ w.cell? ⟨q, 3, none⟩ = some (.slice ga d.n gc) ∧ SqAt (fun _ => True) w sa sc d.n d.S ∧ SlAt qV QM w ga gc d.G := by
  obtain ⟨-, F, ⟨sa, sc, ga, gc, hV⟩, -⟩ := h
  exact ⟨sa, sc, ga, gc, hV.c.c 2 (by decide), hV.c.c 3 (by decide), hV.s.mono (fun _ _ _ => trivial), hV.g⟩
theorem On.dok (h : On W (Den q d R) w) : d.ok := by
  obtain ⟨-, F, hE, -⟩ := h
  exact hE.ok
theorem On.byt {a : Option Addr} {cap : Nat} {xs : List Nat} (h : On W (Den q d (Byx a cap xs R)) w) : SlAt bV 256 w a cap xs := by
  obtain ⟨-, F, -, -, hb, -⟩ := h
  exact hb.1
end
theorem den_drop2 {q : Nat} {d : En} {R R' : Thing} (f : ∀ A w, R A w → R' A w) (A : Nat → Prop) (w : World) (h : Den q d R A w) : Den q d R' A w := den_drop f h
/-- An engine, the document's own, a row of what was told. -/
theorem On.tl3 {W w : World} {p q : Nat} {e d : En} {s : Value} {L : List Rd} {R : Thing} (h : On W (Eng p e (Den q d (Tl s L R))) w) : ∃ A, (∀ k, A k → W.heap.size ≤ k ∧ k < w.heap.size) ∧ Tl s L R A w := by
  obtain ⟨A1, h1, h2⟩ := eng_in h.2
  obtain ⟨A2, h3, h4⟩ := den_in h2
  exact ⟨A2, fun k hk => h1 k (h3 k hk), h4⟩

/-- A variable of several cells. -/
def Cx (p : Nat) (vs : List Value) (R : Thing) : Thing := fun A w => (Cel vs.length w p (fun o => vs.getD o (.int .i64 0)) ∧ A p) ∧ R (fun k => A k ∧ k ≠ p) w
theorem stb_cx {p : Nat} {vs : List Value} {R : Thing} (h : Stb R) : Stb (Cx p vs R) := fun _ _ G w w' hb hk hA hA' =>
  ⟨⟨hb.1.1.keep hk (hA p hb.1.2), hA' p hb.1.2⟩, h _ _ G w w' hb.2 hk (fun k hk => hA k hk.1) (fun k hk => ⟨hA' k hk.1, hk.2⟩)⟩
theorem cx_drop {p : Nat} {vs : List Value} {R R' : Thing} (f : ∀ A w, R A w → R' A w) (A : Nat → Prop) (w : World) (h : Cx p vs R A w) : Cx p vs R' A w := ⟨h.1, f _ _ h.2⟩
theorem cx_gone {p : Nat} {vs : List Value} {R : Thing} (hR : Stb R) (A : Nat → Prop) (w : World) (h : Cx p vs R A w) : R A w := hR _ _ (fun _ => False) _ _ h.2 (Keep.refl _ _) (fun _ _ => id) (fun _ hk => hk.1)
theorem byt_gone {a : Option Addr} {cap : Nat} {xs : List Nat} {R R' : Thing} (f : ∀ A w, R A w → R' A w) (A : Nat → Prop) (w : World) (h : Byt a cap xs R A w) : Byt a cap xs R' A w := ⟨h.1, f _ _ h.2⟩
theorem On.boxv {W w : World} {p q : Nat} {e d : En} {R : Thing} (hR : Stb R) (h : On W (Eng p e (Den q d R)) w) (vs : List Value) (t : TypeId) : On W (Eng p e (Den q d (Cx w.heap.size vs R))) (w.alloc (.cells vs.toArray t)) := by
  have hb := box_b w (.cells vs.toArray t)
  refine h.upd (G := fun _ => False) (Keep.ofBelow hb) (upd_eng (Keep.ofBelow hb) (upd_den (Keep.ofBelow hb) ⟨fun _ _ _ g => g.elim, fun A A' hr hl hA hF => ⟨⟨Cel.new w vs t, hF _ (Nat.le_refl _) (by simp)⟩, hR A _ (fun _ => False) _ _ hr (Keep.ofBelow hb) (fun _ _ => id) (fun k hk => ⟨hA k hk, fun e => by have := hl k hk; omega⟩)⟩⟩)) (fun _ g => g.elim)
theorem ins_cx {N : Nat} {Fr : Nat → Prop} {w : World} {p : Nat} {vs : List Value} {R R' : Thing} (hN : ∀ k, Fr k → N ≤ k) (h : Ins N Fr w R R') : Ins N Fr w (Cx p vs R) (Cx p vs R') := fun A A' hr hl hA hF =>
  ⟨⟨hr.1.1, hA p hr.1.2⟩, h _ _ hr.2 (fun k hk => hl k hk.1) (fun k hk => ⟨hA k hk.1, hk.2⟩) (fun k hk => ⟨hF k hk, fun e => by have := hl p hr.1.2; have := hN k hk; omega⟩)⟩
theorem upd_cx {G : Nat → Prop} {w w' : World} {p : Nat} {vs : List Value} {R R' : Thing} (hk : Keep G w w') (h : Upd G w w' R R') : Upd G w w' (Cx p vs R) (Cx p vs R') := by
  refine ⟨fun A hr k g hl => (h.1 _ hr.2 k g hl).1, fun A A' hr hB hA hF => ?_⟩
  have hp := hr.1.1.lt
  exact ⟨⟨hr.1.1.keep hk (fun g => (h.1 _ hr.2 p g hp).2 rfl), hA p hr.1.2⟩, h.2 _ _ hr.2 (fun k hk => hB k hk.1) (fun k hk => ⟨hA k hk.1, hk.2⟩) (fun k h1 h2 => ⟨hF k h1 h2, fun e => by omega⟩)⟩
theorem upd_byx {G : Nat → Prop} {w w' : World} {a : Option Addr} {cap : Nat} {xs : List Nat} {R R' : Thing} (hk : Keep G w w') (h : Upd G w w' R R') : Upd G w w' (Byx a cap xs R) (Byx a cap xs R') := by
  refine ⟨fun A hr k g hl => (h.1 _ hr.2 k g hl).1, fun A A' hr hB hA hF => ?_⟩
  exact ⟨⟨hr.1.1.carry hk.size (fun ad e hne hlt => hk.block _ hlt (fun g => (h.1 _ hr.2 _ g hlt).2 ad e hne rfl)), fun ad e hne => hA _ (hr.1.2 ad e hne)⟩, h.2 _ _ hr.2 (fun k hk => hB k hk.1) (fun k hk => ⟨hA k hk.1, hk.2⟩) (fun k h1 h2 => ⟨hF k h1 h2, fun ad e hne e2 => by have := hB _ (hr.1.2 ad e hne); omega⟩)⟩
/-- An engine, the document's own, a variable, a row of what was told. -/
theorem On.tl4 {W w : World} {p q px : Nat} {e d : En} {vs : List Value} {s : Value} {L : List Rd} {R : Thing} (h : On W (Eng p e (Den q d (Cx px vs (Tl s L R)))) w) : ∃ A, (∀ k, A k → W.heap.size ≤ k ∧ k < w.heap.size) ∧ Tl s L R A w := by
  obtain ⟨A1, h1, h2⟩ := eng_in h.2
  obtain ⟨A2, h3, h4⟩ := den_in h2
  exact ⟨_, fun k hk => h1 k (h3 k hk.1), h4.2⟩
theorem On.cx {W w : World} {p q px : Nat} {e d : En} {vs : List Value} {R : Thing} (h : On W (Eng p e (Den q d (Cx px vs R))) w) : Cel vs.length w px (fun o => vs.getD o (.int .i64 0)) := by
  obtain ⟨A1, h1, h2⟩ := eng_in h.2
  obtain ⟨A2, h3, h4⟩ := den_in h2
  exact h4.1.1

theorem byx_swap {a : Option Addr} {cap : Nat} {xs : List Nat} {p : Nat} {e : En} {R : Thing} (hR : Stb R) (A : Nat → Prop) (w : World) (h : Byx a cap xs (Eng p e R) A w) : Eng p e (Byx a cap xs R) A w := by
  obtain ⟨⟨hS, hi⟩, F, hE, hF, hr⟩ := h
  exact ⟨F, hE, fun k f => (hF k f).1, ⟨hS, fun ad e hne => ⟨hi ad e hne, fun f => (hF _ f).2 ad e hne rfl⟩⟩, hR _ _ (fun _ => False) _ _ hr (Keep.refl _ _) (fun _ _ => id) (fun k hk => ⟨⟨hk.1.1, hk.2⟩, hk.1.2⟩)⟩
theorem byx_gone {a : Option Addr} {cap : Nat} {xs : List Nat} {R : Thing} (hR : Stb R) (A : Nat → Prop) (w : World) (h : Byx a cap xs R A w) : R A w := hR _ _ (fun _ => False) _ _ h.2 (Keep.refl _ _) (fun _ _ => id) (fun _ hk => hk.1)
theorem byx_drop {a : Option Addr} {cap : Nat} {xs : List Nat} {R R' : Thing} (f : ∀ A w, R A w → R' A w) (A : Nat → Prop) (w : World) (h : Byx a cap xs R A w) : Byx a cap xs R' A w := ⟨h.1, f _ _ h.2⟩
theorem On.tl5 {W w : World} {p q px : Nat} {e d : En} {a : Option Addr} {cap : Nat} {xs : List Nat} {vs : List Value} {s : Value} {L : List Rd} {R : Thing} (h : On W (Eng p e (Den q d (Byx a cap xs (Cx px vs (Tl s L R))))) w) : ∃ A, (∀ k, A k → W.heap.size ≤ k ∧ k < w.heap.size) ∧ Tl s L R A w ∧ SlAt bV 256 w a cap xs := by
  obtain ⟨A1, h1, h2⟩ := eng_in h.2
  obtain ⟨A2, h3, h4⟩ := den_in h2
  exact ⟨_, fun k hk => h1 k (h3 k hk.1.1), h4.2.2, h4.1.1⟩

end Go.Proofs.Ytopnagjbdjicaaa
