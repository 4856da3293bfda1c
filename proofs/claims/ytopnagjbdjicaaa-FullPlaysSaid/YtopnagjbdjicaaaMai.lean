/-
  Texts of this claim, put together.
-/
import Derived.Test.YtopnagjbdjicaaaCmtm
import Derived.Test.YtopnagjbdjicaaaMah
import Derived.Test.YtopnagjbdjicaaaWregm
import Derived.Test.YtopnagjbdjicaaaMae

/-
  Squares of counts, told by what they have; what the calls of mat tell.
-/
namespace Go.Proofs.Ytopnagjbdjicaaa
open Go.RowKit

/-- A slice of rows that has m; what it has lies in blocks that A lets. -/
def SqAt (A : Nat → Prop) (w : World) (a : Option Addr) (cap n : Nat) (m : List (List Nat)) : Prop :=
  ∃ L, mOf L = m ∧ L.length = n ∧ SqV w a cap L ∧ (∀ ad, a = some ad → n ≠ 0 → A ad.block) ∧ ∀ r ∈ L, ∀ ad, r.a = some ad → r.l ≠ [] → A ad.block
section
variable {A A' : Nat → Prop} {w w' : World} {a : Option Addr} {cap n : Nat} {m : List (List Nat)}
theorem SqAt.below (h : SqAt A w a cap n m) (hb : Below w.heap.size w w') : SqAt A w' a cap n m := by
  obtain ⟨L, e, l, s, x, y⟩ := h
  exact ⟨L, e, l, s.below hb, x, y⟩
theorem SqAt.mono (h : SqAt A w a cap n m) (hA : ∀ k, k < w.heap.size → A k → A' k) : SqAt A' w a cap n m := by
  obtain ⟨L, e, l, s, x, y⟩ := h
  refine ⟨L, e, l, s, fun ad ea hn => ?_, fun r hr ad ea hne => ?_⟩
  · obtain ⟨b, off, e2, hb, -⟩ := s.at (i := 0) (by omega)
    rw [ea] at e2
    cases e2
    exact hA _ hb (x _ ea hn)
  · have hl : 0 < r.l.length := List.length_pos_iff.2 hne
    obtain ⟨b, off, e2, hb, -⟩ := (s.each r hr).cell 0 hl
    rw [ea] at e2
    cases e2
    exact hA _ hb (y r hr _ ea hne)
theorem SqAt.drewN (h : SqAt A w a cap n m) (q : Nat) : SqAt A (w.drewN q) a cap n m := h.below ⟨rfl, rfl, rfl, Nat.le_refl _, fun _ _ => rfl⟩
theorem SqAt.put (h : SqAt A w a cap n m) {q : Nat} (hq : ¬ A q) (o : Nat) (v : Value) : SqAt A (w.setCell ⟨q, o, none⟩ v) a cap n m := by
  obtain ⟨L, e, l, s, x, y⟩ := h
  have hs : w.heap.size ≤ (w.setCell ⟨q, o, none⟩ v).heap.size := by simp [World.setCell]
  refine ⟨L, e, l, ⟨s.out.carry hs fun ad ea hne _ => Below.heap_setCell _ _ _ _ (fun e2 => hq (by have := x ad ea (fun h0 => hne (by rw [List.length_eq_zero_iff.1 (l.trans h0)]; rfl)); rw [e2] at this; exact this)), fun r hr => (s.each r hr).carry hs fun ad ea hne _ => Below.heap_setCell _ _ _ _ (fun e2 => hq (by have := y r hr ad ea hne; rw [e2] at this; exact this))⟩, x, y⟩
theorem SqAt.len (h : SqAt A w a cap n m) : m.length = n := by
  obtain ⟨L, e, l, s, -⟩ := h
  rw [← e, mOf_len, l]
theorem SqAt.fit (h : SqAt A w a cap n m) : n ≤ cap ∧ cap ≤ maxLen := by
  obtain ⟨L, e, l, s, -⟩ := h
  exact ⟨by rw [← l]; exact s.fit, s.out.max⟩
theorem SqAt.lt (h : SqAt A w a cap n m) : ∀ r ∈ m, ∀ x ∈ r, x < QM := by
  obtain ⟨L, e, l, s, -⟩ := h
  subst e
  intro r hr
  obtain ⟨x, hx, rfl⟩ := List.mem_map.1 hr
  exact (s.each x hx).lt
/-- A row of it. -/
theorem SqAt.row (h : SqAt A w a cap n m) {i : Nat} (hi : i < n) : ∃ b off ra rc, a = some ⟨b, off, none⟩ ∧ w.cell? ⟨b, off + i, none⟩ = some (.slice ra (m.getD i []).length rc) ∧ SlAt qV QM w ra rc (m.getD i []) := by
  obtain ⟨L, e, l, s, -⟩ := h
  subst e
  have hL : i < L.length := by omega
  obtain ⟨b, off, ea, -, hc⟩ := s.at hL
  have em : (mOf L).getD i [] = L[i].l := by rw [List.getD, List.getElem?_eq_getElem (by rw [mOf_len]; exact hL), mOf_at hL]; rfl
  rw [em]
  exact ⟨b, off, L[i].a, L[i].c, ea, hc, s.row hL⟩
theorem SqAt.of {L : List Rd} (s : SqV w a cap L) (l : L.length = n) : SqAt (fun _ => True) w a cap n (mOf L) := ⟨L, rfl, l, s, fun _ _ _ => trivial, fun _ _ _ _ _ => trivial⟩
theorem SqAt.nil (w : World) : SqAt A w none 0 0 [] := ⟨[], rfl, rfl, ⟨SlV.none _, by simp⟩, (fun _ e => by cases e), by simp⟩

/-- A square in a variable: its block. -/
structure MtV (A : Nat → Prop) (w : World) (p : Nat) (z : Int) (a : Option Addr) (cap n : Nat) (m : List (List Nat)) : Prop where
  c : Cel 2 w p (mkC z (.slice a n cap))
  s : SqAt A w a cap n m
variable {p : Nat} {z : Int}
theorem MtV.below (h : MtV A w p z a cap n m) (hb : Below w.heap.size w w') : MtV A w' p z a cap n m := ⟨h.c.below hb, h.s.below hb⟩
theorem MtV.c0 (h : MtV A w p z a cap n m) : w.cell? ⟨p, 0, none⟩ = some (.int .i64 z) := h.c.c 0 (by decide)
theorem MtV.c1 (h : MtV A w p z a cap n m) : w.cell? ⟨p, 1, none⟩ = some (.slice a n cap) := h.c.c 1 (by decide)
theorem MtV.new (h : SqAt A w a cap n m) (t : TypeId) : MtV A (w.alloc (.cells #[.int .i64 z, .slice a n cap] t)) w.heap.size z a cap n m :=
  ⟨(Cel.new w [.int .i64 z, .slice a n cap] t).conv (fun o ho => by rcases (show o = 0 ∨ o = 1 by simp at ho; omega) with rfl | rfl <;> rfl), h.below (below_alloc (Below.refl _ _) _)⟩
/-- Another square is stored there. -/
theorem MtV.store {z2 : Int} {V : Nat → Value} {q : Nat} (hc : Cel 2 w q V) (h : SqAt A w a cap n m) (hq : ¬ A q) : MtV A ((w.setCell ⟨q, 0, none⟩ (.int .i64 z2)).setCell ⟨q, 1, none⟩ (.slice a n cap)) q z2 a cap n m :=
  ⟨((hc.put 0 _).put 1 _).conv (fun o ho => by
    unfold updc mkC
    rcases (show o = 0 ∨ o = 1 by omega) with rfl | rfl <;> rfl), (h.put hq 0 _).put hq 1 _⟩
end

/-- What is made by a call lies in new memory or in what A lets. -/
def NewA (W : World) (A : Nat → Prop) : Nat → Prop := fun k => A k ∨ W.heap.size ≤ k
/-- A slice of rows that a call gives. -/
def SqR (A : Nat → Prop) (W : World) (n : Nat) (m : List (List Nat)) (a : Option Addr) (cap : Nat) (w' : World) : Prop := SqAt (NewA W A) w' a cap n m ∧ Below W.heap.size W w'

/-! The calls of the laws and the document's own, so told. -/
section
variable {A B : Nat → Prop} {W : World} {a a1 a2 : Option Addr} {cap c1 c2 n n1 n2 : Nat} {m m1 m2 : List (List Nat)} {z : Int}
theorem heavy_at (h : SqAt A W a cap n m) {r : Bool} (hr : heavyM m = r) :
    Calls Try.prog 26 #[.slice a n cap] W fun e w' => e = .returned (.bool r) ∧ W = w' := by
  obtain ⟨L, rfl, l, s, -⟩ := h
  exact heavy_any s l hr
theorem rgood_at (h : SqAt A W a cap n m) {r : Bool} (hr : goodM z m = r) :
    Calls Try.prog 30 #[.int .i64 z, .slice a n cap] W fun e w' => e = .returned (.bool r) ∧ W = w' := by
  obtain ⟨L, rfl, l, s, -⟩ := h
  exact rgood_any s l hr
theorem squares_at (h1 : SqAt A W a1 c1 n1 m1) (h2 : SqAt B W a2 c2 n2 m2) {r : Bool} (hr : decide (m1 = m2) = r) :
    Calls Try.prog 24 #[.slice a1 n1 c1, .slice a2 n2 c2] W fun e w' => e = .returned (.bool r) ∧ ∃ q, w' = W.drewN q := by
  obtain ⟨L, rfl, l, s, -⟩ := h1
  obtain ⟨M, rfl, l2, s2, -⟩ := h2
  exact squares_any s s2 l l2 hr
theorem SameR.sq {W w' : World} {L : List Rd} {a a' : Option Addr} {cap cap' n : Nat} (h : SameR W L a cap w') (s : SqV W a' cap' L) (l : L.length = n) (y : ∀ r ∈ L, ∀ ad, r.a = some ad → r.l ≠ [] → A ad.block) : SqR A W n (mOf L) a cap w' :=
  ⟨⟨L, rfl, l, ⟨h.1, fun r hr => (s.each r hr).below h.2.1⟩, fun ad e _ => Or.inr (h.2.2 ad e), fun r hr ad e hne => Or.inl (y r hr ad e hne)⟩, h.2.1⟩
theorem rows_at (z : Int) (h : SqAt A W a cap n m) (hl : n ≤ 100000) :
    Calls Try.prog 25 #[.agg #[.int .i64 z, .slice a n cap]] W fun e w' => ∃ a' cap', e = .returned (.slice a' n cap') ∧ SqR A W n m a' cap' w' := by
  obtain ⟨L, rfl, l, s, -, y⟩ := h
  exact (rows_any z s.out l hl).mono fun e w ⟨a', c', e1, e2⟩ => ⟨a', c', e1, e2.sq s l y⟩
theorem mat1_at (z : Int) (h : SqAt A W a cap n m) (hl : n ≤ 100000) :
    Calls Try.prog 27 #[.int .i64 z, .slice a n cap] W fun e w' => ∃ a' cap', e = .returned (.agg #[.int .i64 z, .slice a' n cap']) ∧ SqR A W n m a' cap' w' := by
  obtain ⟨L, rfl, l, s, -, y⟩ := h
  exact (mat1_any z s.out l hl).mono fun e w ⟨a', c', e1, e2⟩ => ⟨a', c', e1, e2.sq s l y⟩
theorem NewSq.sq {T : TypeId} {w' : World} {e : Ending} (h : NewSq T W m n e w') : ∃ a' cap', e = .returned (.slice a' n cap') ∧ SqR (fun _ => False) W n m a' cap' w' := by
  obtain ⟨s, L, rfl, hm, hl, hO, hb⟩ := h
  obtain ⟨a, cap, rfl, hs, hl2⟩ := hO.sq
  rw [hl]
  refine ⟨a, cap, rfl, ⟨L, hm, hl, hs, fun ad e _ => Or.inr (hl2 ad e), fun r hr ad e hne => Or.inr ?_⟩, hb⟩
  exact ((hO.row r hr).lt ad.block (by unfold rdV; rw [e]; rfl)).1
theorem small_of {L : List Rd} (h : heavyM (mOf L) = false) : L.length ≤ 10000 ∧ ∀ r ∈ L, r.l.length ≤ 10000 := by
  obtain ⟨h1, h2⟩ := heavyM_no h
  rw [mOf_len] at h1
  exact ⟨by omega, fun r hr => by have := h2 r.l (List.mem_map.2 ⟨r, hr, rfl⟩); omega⟩
theorem rupm_at {to : Nat} {i : Int} (h : SqAt A W a cap n m) (hh : heavyM m = false) (hto : to < 18446744073709551616) :
    Calls Try.prog 54 #[.int .i64 z, .slice a n cap, .int .i64 i, .int .u64 (to : Int)] W fun e w' => ∃ a' cap', e = .returned (.slice a' n cap') ∧ SqR (fun _ => False) W n (upM z m i to) a' cap' w' := by
  obtain ⟨L, rfl, l, s, -⟩ := h
  obtain ⟨h1, h2⟩ := small_of hh
  exact (rupm_any s l (by omega) h2 hto).mono fun e w h => h.sq
theorem rjoinm_at (h1 : SqAt A W a1 c1 n1 m1) (h2 : SqAt B W a2 c2 n2 m2) (hnk : n1 ≤ n2) (hh1 : heavyM m1 = false) (hh2 : heavyM m2 = false) :
    Calls Try.prog 57 #[.slice a1 n1 c1, .slice a2 n2 c2] W fun e w' => ∃ a' cap', e = .returned (.slice a' n1 cap') ∧ SqR (fun _ => False) W n1 (joinM m1 m2) a' cap' w' := by
  obtain ⟨L, rfl, l, s, -⟩ := h1
  obtain ⟨M, rfl, l2, s2, -⟩ := h2
  obtain ⟨g1, g2⟩ := small_of hh1
  obtain ⟨g3, g4⟩ := small_of hh2
  exact (rjoinm_any s s2 l l2 hnk (by omega) g2 g4).mono fun e w h => h.sq
end

/-! What the calls of mat tell. -/
def atM (m : List (List Nat)) (i j : Int) : Nat := if 0 ≤ i then atZ (m.getD i.toNat []) j else 0
def colM (z : Int) (m : List (List Nat)) (j : Int) : List Nat := if goodM z m = true ∧ 0 ≤ j ∧ j < z then m.map fun r => atN r j.toNat else []
def bothM (z1 : Int) (m1 : List (List Nat)) (z2 : Int) (m2 : List (List Nat)) : Bool := goodM z1 m1 && goodM z2 m2 && decide (z1 = z2)
def wiM (z1 : Int) (m1 : List (List Nat)) (z2 : Int) (m2 : List (List Nat)) : Bool := bothM z1 m1 z2 m2 && (List.range m1.length).all fun i => wiB (m1.getD i []) (m2.getD i [])
def zerosM (n : Nat) : List (List Nat) := List.replicate n (List.replicate n 0)

end Go.Proofs.Ytopnagjbdjicaaa

/-
  mat: whether two squares can be held against each other.
-/
namespace Go.Proofs.Ytopnagjbdjicaaa
open Go.RowKit

theorem mgood_at {A : Nat → Prop} {W : World} {a : Option Addr} {cap n : Nat} {m : List (List Nat)} {z : Int} (h : SqAt A W a cap n m) {r : Bool} (hr : goodM z m = r) :
    Calls Try.prog 49 #[.agg #[.int .i64 z, .slice a n cap]] W fun e w' => e = .returned (.bool r) ∧ Below W.heap.size W w' := by
  obtain ⟨L, rfl, l, s, -⟩ := h
  exact mgood_any s l hr

/-- A struct in a box. -/
theorem box_new (W : World) (z : Int) (s : Value) (t : TypeId) : Cel 2 (W.alloc (.cells #[.int .i64 z, s] t)) W.heap.size (mkC z s) :=
  (Cel.new W [.int .i64 z, s] t).conv (fun o ho => by
    rcases (show o = 0 ∨ o = 1 by simp at ho; omega) with rfl | rfl <;> rfl)
theorem box_b (W : World) (o : Obj) : Below W.heap.size W (W.alloc o) := below_alloc (Below.refl _ _) _

set_option maxRecDepth 20000 in
set_option maxHeartbeats 2000000 in
theorem mpair_at {A B : Nat → Prop} {W : World} {a1 a2 : Option Addr} {c1 c2 n1 n2 : Nat} {m1 m2 : List (List Nat)} {z1 z2 : Int} (h1 : SqAt A W a1 c1 n1 m1) (h2 : SqAt B W a2 c2 n2 m2) {r : Bool} (hr : bothM z1 m1 z2 m2 = r) :
    Calls Try.prog 61 #[.agg #[.int .i64 z1, .slice a1 n1 c1], .agg #[.int .i64 z2, .slice a2 n2 c2]] W fun e w' => e = .returned (.bool r) ∧ Below W.heap.size W w' := by
  obtain ⟨g1, hg1⟩ : ∃ b, b = goodM z1 m1 := ⟨_, rfl⟩
  obtain ⟨g2, hg2⟩ : ∃ b, b = goodM z2 m2 := ⟨_, rfl⟩
  obtain ⟨g3, hg3⟩ : ∃ b, b = decide (z1 = z2) := ⟨_, rfl⟩
  have HR := Lib.hid (show r = (g1 && g2 && g3) from by rw [← hr, hg1, hg2, hg3]; rfl)
  have e3 : (z1 == z2) = g3 := by rw [hg3]; rfl
  obtain ⟨w0, hw0⟩ : ∃ w0, w0 = (W.alloc (.cells #[.int .i64 z1, .slice a1 n1 c1] 37)).alloc (.cells #[.int .i64 z2, .slice a2 n2 c2] 37) := ⟨_, rfl⟩
  have hb : Below W.heap.size W w0 := by rw [hw0]; exact below_alloc (box_b W _) _
  have C1 : Cel 2 w0 W.heap.size (mkC z1 (.slice a1 n1 c1)) := by rw [hw0]; exact (box_new W z1 _ _).below (box_b _ _)
  have C2 : Cel 2 w0 (W.heap.size + 1) (mkC z2 (.slice a2 n2 c2)) := by
    have := box_new (W.alloc (.cells #[.int .i64 z1, .slice a1 n1 c1] 37)) z2 (.slice a2 n2 c2) 37
    rw [← hw0, show (W.alloc (.cells #[.int .i64 z1, .slice a1 n1 c1] 37)).heap.size = W.heap.size + 1 by simp] at this
    exact this
  have p0 : w0.cell? ⟨W.heap.size, 0, none⟩ = some (.int .i64 z1) := C1.c 0 (by decide)
  have p1 : w0.cell? ⟨W.heap.size, 1, none⟩ = some (.slice a1 n1 c1) := C1.c 1 (by decide)
  have P1 := Lib.hid C1
  have P2 := Lib.hid C2
  have CA := Lib.hid (mgood_at (h1.below hb) hg1.symm)
  have S2 := Lib.hid (h2.below hb)
  have G2 := Lib.hid hg2.symm
  have HB := Lib.hid hb
  have HW := Lib.hid hw0.symm
  clear hr hg1 hg2 hg3 h1 h2 hb C1 C2 hw0
  go_enter Try.func61, Try.ntmps61
  go_wp2_with fail
  rw [HW.out]
  go_wp2_with fail
  refine CA.out.mono ?_
  rintro e w1 ⟨rfl, hb1⟩
  have q0 : w1.cell? ⟨W.heap.size + 1, 0, none⟩ = some (.int .i64 z2) := (P2.out.below hb1).c 0 (by decide)
  have q1 : w1.cell? ⟨W.heap.size + 1, 1, none⟩ = some (.slice a2 n2 c2) := (P2.out.below hb1).c 1 (by decide)
  have CB := Lib.hid (mgood_at (S2.out.below hb1) G2.out)
  have F := Lib.hid (fun w2 (hb2 : Below w1.heap.size w1 w2) => show Below W.heap.size W w2 ∧ w2.cell? ⟨W.heap.size, 0, none⟩ = some (.int .i64 z1) ∧ w2.cell? ⟨W.heap.size + 1, 0, none⟩ = some (.int .i64 z2) from
    ⟨HB.out.trans ((hb1.mono HB.out.size).trans (hb2.mono (Nat.le_trans HB.out.size hb1.size))), ((P1.out.below hb1).below hb2).c 0 (by decide), ((P2.out.below hb1).below hb2).c 0 (by decide)⟩)
  have R0 := Lib.hid (HB.out.trans (hb1.mono HB.out.size))
  clear hb1 HB CA
  cases g1
  · go_wp2_with fail
    go_ret
    exact ⟨by rw [HR.out]; rfl, R0.out⟩
  · go_wp2_with fail
    refine CB.out.mono ?_
    rintro e w2 ⟨rfl, hb2⟩
    obtain ⟨B2, u0, u1⟩ := F.out w2 hb2
    have B3 := Lib.hid B2
    clear B2 hb2 CB F
    cases g2
    all_goals
      go_wp2_with fail
      go_ret
      exact ⟨by rw [HR.out]; rfl, B3.out⟩

end Go.Proofs.Ytopnagjbdjicaaa

/-
  A square under way in a variable.
-/
namespace Go.Proofs.Ytopnagjbdjicaaa
open Go.RowKit

/-- U: the world ahead; p: the variable's block. -/
structure FillV (U wr : World) (p : Nat) (z : Int) (s : Value) (K M : List Rd) : Prop where
  sq : ParSq 42 U.heap.size wr s K M
  c : Cel 2 wr p (mkC z s)
  off : OffP p s K
  hp : U.heap.size ≤ p
  b : Below U.heap.size U wr

theorem FillV.drew {U wr : World} {p : Nat} {z : Int} {s : Value} {K M : List Rd} (h : FillV U wr p z s K M) : FillV U wr.drew p z s K M :=
  ⟨h.sq.below (drew_below _), h.c.drew, h.off, h.hp, h.b.trans ((drew_below wr).mono h.b.size)⟩
theorem FillV.next {U wr w1 : World} {p : Nat} {z : Int} {s : Value} {K M : List Rd} {x : Rd} {a : Option Addr} {c : Nat} {xs : List Nat} (h : FillV U wr p z s K (x :: M)) (h1 : Below wr.heap.size wr w1) (hr : w1.ownsRow wr.heap.size 29 1 (.slice a xs.length c) xs.length (xs.map qV)) (hx : ∀ x ∈ xs, x < QM) :
    ∃ g cap, s = .slice (some ⟨g, 0, none⟩) (K.length + (M.length + 1)) cap ∧ w1.cell? ⟨g, K.length, none⟩ = some (rdV x) ∧ w1.frozen? ⟨g, K.length, none⟩ = false ∧ w1.cell? ⟨p, 1, none⟩ = some s ∧
      FillV U (w1.setCell ⟨g, K.length, none⟩ (.slice a xs.length c)) p z s (K ++ [⟨a, c, xs⟩]) M := by
  obtain ⟨g, cap, e, hB, hg, hc, hf, hP⟩ := h.sq.next h1 hr h.b.size hx
  have hpg : p ≠ g := fun e2 => h.off.1 (by rw [e, e2]; rfl)
  refine ⟨g, cap, e, hc, hf, (h.c.below h1).c 1 (by decide), hP, ?_, h.off.more hr h.c.lt, h.hp, ?_⟩
  · exact (h.c.below h1).keep (F := fun j => j = g) ((Keep.refl _ _).put _ _) hpg
  · exact (h.b.trans (h1.mono h.b.size)).setCell hB _
theorem own_sqR {T : TypeId} {W w' : World} {a : Option Addr} {cap n : Nat} {L : List Rd} {m : List (List Nat)} (h : OwnSq T W.heap.size w' (.slice a n cap) L) (hl : L.length = n) (hm : mOf L = m) (hb : Below W.heap.size W w') : SqR (fun _ => False) W n m a cap w' := by
  have h1 : NewSq T W m n (.returned (.slice a n cap)) w' := ⟨_, L, rfl, hm, hl, h, hb⟩
  obtain ⟨a2, c2, e, h2⟩ := h1.sq
  cases e
  exact h2
/-- It is returned: laid into the result's block t. -/
theorem FillV.fin {W U wr : World} {p t n : Nat} {z : Int} {a : Option Addr} {cap : Nat} {K : List Rd} {V : Nat → Value} {m : List (List Nat)} (h : FillV U wr p z (.slice a n cap) K []) (hl : K.length = n) (hm : mOf K = m) (ht : Cel 2 U t V) (hW : Below W.heap.size W U) (hWt : W.heap.size ≤ t) :
    (wr.cell? ⟨t, 0, none⟩ = some (V 0) ∧ wr.cell? ⟨t, 1, none⟩ = some (V 1) ∧ wr.frozen? ⟨t, 0, none⟩ = false ∧ wr.frozen? ⟨t, 1, none⟩ = false ∧ wr.cell? ⟨p, 0, none⟩ = some (.int .i64 z) ∧ wr.cell? ⟨p, 1, none⟩ = some (.slice a n cap)) ∧
    ((wr.setCell ⟨t, 0, none⟩ (.int .i64 z)).setCell ⟨t, 1, none⟩ (.slice a n cap)).cell? ⟨t, 0, none⟩ = some (.int .i64 z) ∧
    ((wr.setCell ⟨t, 0, none⟩ (.int .i64 z)).setCell ⟨t, 1, none⟩ (.slice a n cap)).cell? ⟨t, 1, none⟩ = some (.slice a n cap) ∧
    SqR (fun _ => False) W n m a cap ((wr.setCell ⟨t, 0, none⟩ (.int .i64 z)).setCell ⟨t, 1, none⟩ (.slice a n cap)) := by
  have T1 : Cel 2 wr t V := ht.below h.b
  have T2 := (T1.put 0 (.int .i64 z)).put 1 (.slice a n cap)
  have o := h.sq.done
  have f1 : OffP t (.slice a n cap) K := o.off (Or.inl ht.lt)
  have o2 := (o.put_off f1 0 (.int .i64 z)).put_off f1 1 (.slice a n cap)
  exact ⟨⟨T1.c 0 (by decide), T1.c 1 (by decide), T1.fz 0, T1.fz 1, h.c.c 0 (by decide), h.c.c 1 (by decide)⟩, T2.c 0 (by decide), T2.c 1 (by decide), own_sqR (o2.mono hW.size) hl hm (((hW.trans (h.b.mono hW.size)).setCell hWt _).setCell hWt _)⟩

end Go.Proofs.Ytopnagjbdjicaaa

/-
  mat.New.
-/
namespace Go.Proofs.Ytopnagjbdjicaaa
open Go.RowKit

theorem vnew_at (W : World) {z : Int} {n : Nat} (hz : (n : Int) = z) (h : n ≤ 16) : Calls Try.prog 35 #[.int .i64 z] W fun e w' => ∃ a cap, e = .returned (.slice a n cap) ∧ Below W.heap.size W w' ∧ w'.ownsRow W.heap.size 29 1 (.slice a (List.replicate n 0).length cap) (List.replicate n 0).length ((List.replicate n 0).map qV) := by
  refine (vnew_any W z (n := n) (by unfold newN; omega)).mono ?_
  rintro e w' ⟨a, c, rfl, -, hb, -, ho⟩
  exact ⟨a, c, by rw [List.length_replicate], hb, ho⟩

theorem zerosM_is {n : Nat} {K : List Rd} (hl : K.length = n) (h : ∀ r ∈ K, r.l = List.replicate n 0) : mOf K = zerosM n :=
  List.ext_getElem (by rw [mOf_len, hl]; simp [zerosM]) fun i h1 h2 => by
    rw [mOf_len] at h1
    rw [mOf_at h1, h _ (List.getElem_mem _)]
    simp [zerosM]

def NwR (U : World) (p n : Nat) (z : Int) (s i : Value) (wr : World) : Prop :=
  ∃ (k : Nat) (K : List Rd), k ≤ n ∧ i = .int .i64 (k : Nat) ∧ K.length = k ∧ (∀ r ∈ K, r.l = List.replicate n 0) ∧ FillV U wr p z s K (List.replicate (n - k) ⟨none, 0, []⟩)

set_option maxRecDepth 20000 in
set_option maxHeartbeats 4000000 in
theorem mnew_yes {W : World} {n : Nat} {z : Int} (hz : (n : Int) = z) (h1 : 1 ≤ n) (h2 : n ≤ 16) :
    Calls Try.prog 32 #[.int .i64 z] W fun e w' => ∃ a' cap', e = .returned (.tuple #[.agg #[.int .i64 z, .slice a' n cap'], .int .i64 0]) ∧ SqR (fun _ => False) W n (zerosM n) a' cap' w' := by
  obtain ⟨U, hU⟩ : ∃ U, U = W.alloc (.cells #[.int .i64 0, .slice none 0 0] 37) := ⟨_, rfl⟩
  have hb : Below W.heap.size W U := by rw [hU]; exact box_b W _
  have T1 : Cel 2 U W.heap.size (mkC 0 (.slice none 0 0)) := by rw [hU]; exact box_new W 0 _ _
  have CS := Lib.hid (msized_any (W := U) (z := z) (r := true) (decide_eq_true ⟨by omega, by omega⟩))
  have hmk := make_rows n hz (by omega)
  obtain ⟨w0, hw0⟩ : ∃ w0, w0 = (U.alloc (.cells (madeCells #[.slice none 0 0] n) 42)).alloc (.cells #[.int .i64 z, .slice (some ⟨U.heap.size, 0, none⟩) n n] 37) := ⟨_, rfl⟩
  have I0 : NwR U (U.heap.size + 1) n z (.slice (some ⟨U.heap.size, 0, none⟩) n n) (.int .i64 0) w0 := by
    have hp := (ParSq.start (own_made U n (by omega)) (by simp)).below (box_b _ (.cells #[.int .i64 z, .slice (some ⟨U.heap.size, 0, none⟩) n n] 37))
    have hc := box_new (U.alloc (.cells (madeCells #[.slice none 0 0] n) 42)) z (.slice (some ⟨U.heap.size, 0, none⟩) n n) 37
    rw [show (U.alloc (.cells (madeCells #[.slice none 0 0] n) 42)).heap.size = U.heap.size + 1 by simp] at hc
    rw [← hw0] at hp hc
    refine ⟨0, [], Nat.zero_le _, rfl, rfl, by simp, hp, hc, ⟨by simp [Value.ownBlock], by simp⟩, by omega, ?_⟩
    rw [hw0]
    exact below_alloc (box_b U _) _
  have HI := Lib.hid I0
  have HU := Lib.hid hU.symm
  have HW0 := Lib.hid hw0.symm
  have HB := Lib.hid hb
  have HT := Lib.hid T1
  have HZ := Lib.hid hz
  have hcell : w0.cell? ⟨U.heap.size + 1, 1, none⟩ = some (.slice (some ⟨U.heap.size, 0, none⟩) n n) := by
    obtain ⟨k, K, -, -, -, -, hF⟩ := I0
    exact hF.c.c 1 (by decide)
  clear hU hw0 hb T1 I0 hz
  go_enter Try.func32, Try.ntmps32
  go_wp2_with fail
  rw [HU.out]
  go_wp2_with (go_at_call 63; refine CS.out.mono ?_; rintro e w' ⟨rfl, rfl⟩)
  rw [HW0.out]
  clear HU HW0 hmk CS hcell
  go_loopw [17] (fun i wr => NwR U (U.heap.size + 1) n z (.slice (some ⟨U.heap.size, 0, none⟩) n n) i wr) (fun i _ => n - (intOf i).toNat)
  case atStart => exact HI.out
  case round =>
    obtain ⟨k, K, hk, rfl, hl, hK, hF⟩ := hrel
    clear HI
    by_cases hlt : k < n
    · rw [show n - k = (n - (k + 1)) + 1 by omega, List.replicate_succ] at hF
      have c1 : wr.cell? ⟨U.heap.size + 1, 1, none⟩ = some (.slice (some ⟨U.heap.size, 0, none⟩) n n) := hF.c.c 1 (by decide)
      have c1d : wr.drew.cell? ⟨U.heap.size + 1, 1, none⟩ = some (.slice (some ⟨U.heap.size, 0, none⟩) n n) := c1
      have CN := Lib.hid (vnew_at wr.drew HZ.out h2)
      have FIN := Lib.hid (fun (w3 : World) (a : Option Addr) (c : Nat) (g1 : Below wr.drew.heap.size wr.drew w3) (g2 : w3.ownsRow wr.drew.heap.size 29 1 (.slice a (List.replicate n 0).length c) (List.replicate n 0).length ((List.replicate n 0).map qV)) =>
        show ∃ c9, w3.cell? ⟨U.heap.size, k, none⟩ = some c9 ∧ w3.frozen? ⟨U.heap.size, k, none⟩ = false ∧ w3.cell? ⟨U.heap.size + 1, 1, none⟩ = some (.slice (some ⟨U.heap.size, 0, none⟩) n n) ∧ NwR U (U.heap.size + 1) n z (.slice (some ⟨U.heap.size, 0, none⟩) n n) (.int .i64 ((k + 1 : Nat) : Int)) (w3.setCell ⟨U.heap.size, k, none⟩ (.slice a n c)) from by
          obtain ⟨g, cap, e, x1, x2, x3, x4⟩ := hF.drew.next g1 g2 (zeros_lt n)
          simp only [Value.slice.injEq, Option.some.injEq, Addr.mk.injEq, and_true] at e
          obtain ⟨rfl, -⟩ := e
          rw [hl] at x1 x2 x4
          rw [List.length_replicate] at x4
          exact ⟨_, x1, x2, x3, k + 1, _, by omega, rfl, by simp [hl], fun r hr => (List.mem_append.1 hr).elim (hK r) (fun h => by rw [List.mem_singleton.1 h]), x4⟩)
      have j0 : (0 : Int) ≤ (k : Int) := by omega
      have j1 : (k : Int) < (n : Int) := by omega
      clear hF hl hK
      go_wp2_with fail
      go_region_law (go_simp; go_at_call 35; refine CN.out.mono ?_; rintro e w3 ⟨a3, c3, rfl, hb3, ho3⟩; obtain ⟨c9, k1, k2, k4, k3⟩ := FIN.out w3 a3 c3 hb3 ho3; have R := Lib.hid k3; clear hb3 ho3 k3)
      all_goals
        try go_simp
        go_wp2_with fail
        go_roundw
        case rel => exact R.out
        case measure => simp only [intOf]; omega
    · obtain rfl : k = n := by omega
      have dk : decide ((k : Int) < (k : Int)) = false := decide_eq_false (by omega)
      rw [Nat.sub_self, List.replicate_zero] at hF
      obtain ⟨⟨d0, d1, f0, f1, e0, e1⟩, r0, r1, hR⟩ := hF.fin hl (zerosM_is hl hK) HT.out HB.out (Nat.le_refl _)
      have R := Lib.hid hR
      clear hR hF hl hK
      go_wp2_with fail
      refine bodyPost_ret (v := .tuple #[.agg #[.int .i64 z, .slice (some ⟨U.heap.size, 0, none⟩) k k], .int .i64 0]) (by simp [results, Try.results32, go_sem, r0, r1]) rfl ?_
      exact ⟨_, _, rfl, R.out⟩

set_option maxRecDepth 20000 in
set_option maxHeartbeats 4000000 in
theorem mnew_no {W : World} {z : Int} (h : z < 1 ∨ z > 16) :
    Calls Try.prog 32 #[.int .i64 z] W fun e w' => e = .returned (.tuple #[.agg #[.int .i64 0, .slice none 0 0], .int .i64 1]) ∧ Below W.heap.size W w' := by
  obtain ⟨U, hU⟩ : ∃ U, U = W.alloc (.cells #[.int .i64 0, .slice none 0 0] 37) := ⟨_, rfl⟩
  have hb : Below W.heap.size W U := by rw [hU]; exact box_b W _
  have T1 : Cel 2 U W.heap.size (mkC 0 (.slice none 0 0)) := by rw [hU]; exact box_new W 0 _ _
  have CS := Lib.hid (msized_any (W := U) (z := z) (r := false) (decide_eq_false (by omega)))
  have d0 : U.cell? ⟨W.heap.size, 0, none⟩ = some (.int .i64 0) := T1.c 0 (by decide)
  have d1 : U.cell? ⟨W.heap.size, 1, none⟩ = some (.slice none 0 0) := T1.c 1 (by decide)
  have f0 := T1.fz 0
  have f1 := T1.fz 1
  have T2 := (T1.put 0 (.int .i64 0)).put 1 (.slice none 0 0)
  have r0 : ((U.setCell ⟨W.heap.size, 0, none⟩ (.int .i64 0)).setCell ⟨W.heap.size, 1, none⟩ (.slice none 0 0)).cell? ⟨W.heap.size, 0, none⟩ = some (.int .i64 0) := T2.c 0 (by decide)
  have r1 : ((U.setCell ⟨W.heap.size, 0, none⟩ (.int .i64 0)).setCell ⟨W.heap.size, 1, none⟩ (.slice none 0 0)).cell? ⟨W.heap.size, 1, none⟩ = some (.slice none 0 0) := T2.c 1 (by decide)
  have R := Lib.hid ((hb.setCell (Nat.le_refl _) _ : Below W.heap.size W (U.setCell ⟨W.heap.size, 0, none⟩ (.int .i64 0))).setCell (p := ⟨W.heap.size, 1, none⟩) (Nat.le_refl _) (.slice none 0 0))
  have HU := Lib.hid hU.symm
  clear hU hb T1 T2 h
  go_enter Try.func32, Try.ntmps32
  go_wp2_with fail
  rw [HU.out]
  go_wp2_with (go_at_call 63; refine CS.out.mono ?_; rintro e w' ⟨rfl, rfl⟩)
  refine bodyPost_ret (v := .tuple #[.agg #[.int .i64 0, .slice none 0 0], .int .i64 1]) (by simp [results, Try.results32, go_sem, r0, r1]) rfl ?_
  exact ⟨rfl, R.out⟩

end Go.Proofs.Ytopnagjbdjicaaa

/-
  mat.At, mat.Within.
-/
namespace Go.Proofs.Ytopnagjbdjicaaa
open Go.RowKit

theorem atM_in {m : List (List Nat)} {i : Nat} {j : Int} : atM m (i : Int) j = atZ (m.getD i []) j := by
  unfold atM
  rw [if_pos (by omega), Int.toNat_natCast]
theorem atM_none {m : List (List Nat)} {i j : Int} (h : ¬ (0 ≤ i ∧ i < m.length)) : atM m i j = 0 := by
  unfold atM
  by_cases h0 : 0 ≤ i
  · rw [if_pos h0, List.getD, List.getElem?_eq_none (by omega)]
    by_cases hj : j < 0
    · exact atZ_neg hj
    · obtain ⟨k, rfl⟩ : ∃ k : Nat, j = k := ⟨j.toNat, by omega⟩
      rw [atZ_nat]
      exact atN_out (Nat.zero_le _)
  · rw [if_neg h0]

set_option maxRecDepth 20000 in
set_option maxHeartbeats 2000000 in
theorem mat_any {A : Nat → Prop} {W : World} {a : Option Addr} {cap n : Nat} {m : List (List Nat)} {z i j : Int} (h : SqAt A W a cap n m) {v : Nat} (hv : atM m i j = v) :
    Calls Try.prog 17 #[.agg #[.int .i64 z, .slice a n cap], .int .i64 i, .int .i64 j] W fun e w' => e = .returned (.int .u64 (v : Int)) ∧ Below W.heap.size W w' := by
  obtain ⟨w0, hw0⟩ : ∃ w0, w0 = W.alloc (.cells #[.int .i64 z, .slice a n cap] 37) := ⟨_, rfl⟩
  have hb : Below W.heap.size W w0 := by rw [hw0]; exact box_b W _
  have C1 : Cel 2 w0 W.heap.size (mkC z (.slice a n cap)) := by rw [hw0]; exact box_new W z _ _
  have p1 : w0.cell? ⟨W.heap.size, 1, none⟩ = some (.slice a n cap) := C1.c 1 (by decide)
  have HB := Lib.hid hb
  have HW := Lib.hid hw0.symm
  have hl := h.len
  by_cases hi : 0 ≤ i ∧ i < (n : Int)
  · obtain ⟨k, rfl⟩ : ∃ k : Nat, i = k := ⟨i.toNat, by omega⟩
    have CW := Lib.hid (mwithin_any (W := w0) (i := (k : Int)) (z := (n : Int)) (decide_eq_true hi))
    have hk : k < n := by omega
    obtain ⟨b, off, ra, rc, rfl, hc, hs⟩ := (h.below hb).row hk
    have CV := Lib.hid (vat_any (z := j) hs rfl (atM_in.symm.trans hv))
    have i0 : (0 : Int) ≤ (k : Int) := by omega
    have i1 : (k : Int) < (n : Int) := by omega
    generalize (m.getD k []).length = rn at *
    clear hs hv h hi hb C1 hw0
    go_enter Try.func17, Try.ntmps17
    go_wp2_with fail
    rw [HW.out]
    go_wp2_with (first
      | (go_at_call 47; refine CW.out.mono ?_; rintro e w' ⟨rfl, rfl⟩)
      | (go_at_call 48; refine CV.out.mono ?_; rintro e w' ⟨rfl, rfl⟩))
    go_ret
    exact ⟨rfl, HB.out⟩
  · have CW := Lib.hid (mwithin_any (W := w0) (i := i) (z := (n : Int)) (decide_eq_false hi))
    have R := Lib.hid (show v = 0 from by rw [← hv]; exact atM_none (by rw [hl]; exact hi))
    clear hv h hi hb C1 hw0
    go_enter Try.func17, Try.ntmps17
    go_wp2_with fail
    rw [HW.out]
    go_wp2_with (go_at_call 47; refine CW.out.mono ?_; rintro e w' ⟨rfl, rfl⟩)
    go_ret
    exact ⟨by rw [R.out]; rfl, HB.out⟩

theorem cmp_gt {xs ys : List Nat} : decide (cmpZ xs ys > 0) = !wiB xs ys := by
  rw [cmpZ_of rfl rfl]
  cases wiB xs ys <;> cases wiB ys xs <;> rfl
theorem bothM_is {z1 z2 : Int} {m1 m2 : List (List Nat)} (h : bothM z1 m1 z2 m2 = true) : goodM z1 m1 = true ∧ goodM z2 m2 = true ∧ z1 = z2 := by
  unfold bothM at h
  simp only [Bool.and_eq_true, decide_eq_true_eq] at h
  exact ⟨h.1.1, h.1.2, h.2⟩
theorem wiM_no {z1 z2 : Int} {m1 m2 : List (List Nat)} (h : bothM z1 m1 z2 m2 = false) : wiM z1 m1 z2 m2 = false := by
  unfold wiM; rw [h]; rfl
theorem wiM_yes {z1 z2 : Int} {m1 m2 : List (List Nat)} (h : bothM z1 m1 z2 m2 = true) : wiM z1 m1 z2 m2 = decide (∀ i, i < m1.length → wiB (m1.getD i []) (m2.getD i []) = true) := by
  unfold wiM
  rw [h, Bool.true_and, Bool.eq_iff_iff, List.all_eq_true, decide_eq_true_eq]
  exact ⟨fun h i hi => h i (List.mem_range.2 hi), fun h i hi => h i (List.mem_range.1 hi)⟩

set_option maxRecDepth 20000 in
set_option maxHeartbeats 4000000 in
theorem mwi_at {A B : Nat → Prop} {W : World} {a1 a2 : Option Addr} {c1 c2 n1 n2 : Nat} {m1 m2 : List (List Nat)} {z1 z2 : Int} (h1 : SqAt A W a1 c1 n1 m1) (h2 : SqAt B W a2 c2 n2 m2) {r : Bool} (hr : wiM z1 m1 z2 m2 = r) :
    Calls Try.prog 31 #[.agg #[.int .i64 z1, .slice a1 n1 c1], .agg #[.int .i64 z2, .slice a2 n2 c2]] W fun e w' => e = .returned (.bool r) ∧ Below W.heap.size W w' := by
  obtain ⟨g, hg⟩ : ∃ b, b = bothM z1 m1 z2 m2 := ⟨_, rfl⟩
  obtain ⟨w0, hw0⟩ : ∃ w0, w0 = (W.alloc (.cells #[.int .i64 z1, .slice a1 n1 c1] 37)).alloc (.cells #[.int .i64 z2, .slice a2 n2 c2] 37) := ⟨_, rfl⟩
  have hb : Below W.heap.size W w0 := by rw [hw0]; exact below_alloc (box_b W _) _
  have C1 : Cel 2 w0 W.heap.size (mkC z1 (.slice a1 n1 c1)) := by rw [hw0]; exact (box_new W z1 _ _).below (box_b _ _)
  have C2 : Cel 2 w0 (W.heap.size + 1) (mkC z2 (.slice a2 n2 c2)) := by
    have := box_new (W.alloc (.cells #[.int .i64 z1, .slice a1 n1 c1] 37)) z2 (.slice a2 n2 c2) 37
    rw [← hw0, show (W.alloc (.cells #[.int .i64 z1, .slice a1 n1 c1] 37)).heap.size = W.heap.size + 1 by simp] at this
    exact this
  have p0 : w0.cell? ⟨W.heap.size, 0, none⟩ = some (.int .i64 z1) := C1.c 0 (by decide)
  have p1 : w0.cell? ⟨W.heap.size, 1, none⟩ = some (.slice a1 n1 c1) := C1.c 1 (by decide)
  have q0 : w0.cell? ⟨W.heap.size + 1, 0, none⟩ = some (.int .i64 z2) := C2.c 0 (by decide)
  have q1 : w0.cell? ⟨W.heap.size + 1, 1, none⟩ = some (.slice a2 n2 c2) := C2.c 1 (by decide)
  have CP := Lib.hid (mpair_at (h1.below hb) (h2.below hb) hg.symm)
  have P1 := Lib.hid C1
  have P2 := Lib.hid C2
  have S1 := Lib.hid (h1.below hb)
  have S2 := Lib.hid (h2.below hb)
  have HB := Lib.hid hb
  have HW := Lib.hid hw0.symm
  have HG := Lib.hid hg
  have HR := Lib.hid hr
  have HL := Lib.hid h1.len
  clear hg hb C1 C2 hw0 h1 h2 hr
  go_enter Try.func31, Try.ntmps31
  go_wp2_with fail
  rw [HW.out]
  go_wp2_with fail
  refine CP.out.mono ?_
  rintro e w1 ⟨rfl, hb1⟩
  have R0 := Lib.hid (HB.out.trans (hb1.mono HB.out.size))
  have t1 : w1.cell? ⟨W.heap.size, 1, none⟩ = some (.slice a1 n1 c1) := (P1.out.below hb1).c 1 (by decide)
  have u1 : w1.cell? ⟨W.heap.size + 1, 1, none⟩ = some (.slice a2 n2 c2) := (P2.out.below hb1).c 1 (by decide)
  replace S1 := Lib.hid (S1.out.below hb1)
  replace S2 := Lib.hid (S2.out.below hb1)
  clear hb1 CP p0 p1 q0 q1 P1 P2 HB HW
  cases g
  · go_wp2_with fail
    go_ret
    exact ⟨by rw [← HR.out, wiM_no HG.out.symm]; rfl, R0.out⟩
  · obtain ⟨g1, g2, rfl⟩ := bothM_is HG.out.symm
    obtain ⟨N, rfl, hN1, hN2, hN3, hN4⟩ := goodM_is g1
    obtain ⟨N', hN, -, -, hM3, hM4⟩ := goodM_is g2
    obtain rfl : N = N' := by omega
    obtain rfl : N = n1 := by rw [← hN3, HL.out]
    obtain rfl : N = n2 := by rw [← hM3, S2.out.len]
    have HR2 := Lib.hid (show r = decide (∀ i, i < N → wiB (m1.getD i []) (m2.getD i []) = true) from by rw [← HR.out, wiM_yes HG.out.symm, hN3])
    clear g1 g2 hN3 hM3 hN4 hM4 hN HR HG
    go_wp2_with fail
    go_loop [14] (fun v => ∃ k : Nat, k ≤ N ∧ v = .int .i64 (k : Nat) ∧ Hid (∀ i, i < k → wiB (m1.getD i []) (m2.getD i []) = true)) (fun v => N - (intOf v).toNat)
    case atStart => exact ⟨0, Nat.zero_le _, rfl, Lib.hid (fun i hi => by omega)⟩
    case round =>
      obtain ⟨k, hk, rfl, hT⟩ := hrel
      by_cases hlt : k < N
      · obtain ⟨b, off, ra, rc, rfl, hc, hs⟩ := S1.out.row hlt
        obtain ⟨b2, off2, ra2, rc2, rfl, hc2, hs2⟩ := S2.out.row hlt
        have CC := Lib.hid (vcmp_any hs hs2 rfl rfl rfl)
        have i0 : (0 : Int) ≤ (k : Int) := by omega
        have i1 : (k : Int) < (N : Int) := by omega
        have hgt := cmp_gt (xs := m1.getD k []) (ys := m2.getD k [])
        have hyes := Lib.hid (fun (h : wiB (m1.getD k []) (m2.getD k []) = true) => show ∀ i, i < k + 1 → wiB (m1.getD i []) (m2.getD i []) = true from fun i hi => by
          by_cases e : i = k
          · subst e; exact h
          · exact hT.out i (by omega))
        have hno := Lib.hid (fun (h : wiB (m1.getD k []) (m2.getD k []) = false) => show r = false from by
          rw [HR2.out]
          exact decide_eq_false fun h' => by rw [h' k hlt] at h; cases h)
        generalize cmpZ (m1.getD k []) (m2.getD k []) = cz at *
        generalize hbw : wiB (m1.getD k []) (m2.getD k []) = bw at *
        generalize (m1.getD k []).length = x1 at *
        generalize (m2.getD k []).length = x2 at *
        clear hs hs2 hbw
        cases bw
        · have R := Lib.hid (hno.out rfl)
          simp only [Bool.not_false] at hgt
          go_wp2_with (go_at_call 62; refine CC.out.mono ?_; rintro e w' ⟨rfl, rfl⟩)
          go_ret
          exact ⟨by rw [R.out]; rfl, R0.out⟩
        · have R := Lib.hid (hyes.out rfl)
          simp only [Bool.not_true] at hgt
          go_wp2_with (go_at_call 62; refine CC.out.mono ?_; rintro e w' ⟨rfl, rfl⟩)
          go_round
          case rel => exact ⟨k + 1, by omega, by go_num, R⟩
          case measure => simp only [intOf]; omega
      · have R := Lib.hid (show r = true from by rw [HR2.out]; exact decide_eq_true fun i hi => hT.out i (by omega))
        go_wp2_with fail
        go_ret
        exact ⟨by rw [R.out]; rfl, R0.out⟩

end Go.Proofs.Ytopnagjbdjicaaa

/-
  mat.clone.
-/
namespace Go.Proofs.Ytopnagjbdjicaaa
open Go.RowKit

set_option maxRecDepth 20000 in
set_option maxHeartbeats 2000000 in
theorem rclone_any {W : World} {a : Option Addr} {cap n : Nat} {L : List Rd} (h : SqV W a cap L) (hn : L.length = n) (hl : n ≤ 1000000) :
    Calls Try.prog 82 #[.slice a n cap] W fun e w' => ∃ a' cap', e = .returned (.slice a' n cap') ∧ w'.ownsRow W.heap.size 42 1 (.slice a' n cap') n (L.map rdV) ∧ Below W.heap.size W w' := by
  obtain ⟨i0, hi0, hz0, hz1, hz2⟩ := info_v Try.infoV
  subst hn
  cases a with
  | none =>
    have h1 := h.out.nil rfl
    have h2 := h.fit
    obtain rfl : L = [] := List.length_eq_zero_iff.1 (by omega)
    subst h1
    clear h hl h2
    have he : ∀ w : World, (binOp .eql 35 (.slice none 0 0) (.slice none 0 0)).run Try.prog w = .ok (.bool true) w := fun _ => rfl
    go_enter Try.func82, Try.ntmps82
    go_wp2_with fail
    go_ret
    exact ⟨none, 0, rfl, World.ownsRow_nil _ _ _ _, Below.refl _ _⟩
  | some ad =>
    have S := Lib.hid h
    clear h
    generalize hn : L.length = n at *
    have X := Lib.hid hn
    clear hn
    have he : ∀ w : World, (binOp .eql 35 (.slice (some ad) n cap) (.slice none 0 0)).run Try.prog w = .ok (.bool false) w := fun _ => rfl
    have O := Lib.hid (World.ownsRow_lit (base := W.heap.size) (e := 42) (size := 1) W #[] 0 (Nat.le_refl _) (by unfold maxLen; omega) rfl)
    have NW := Lib.hid (fun (w : World) (hb : Below W.heap.size W w) => show ∀ ad', some ad = some ad' → ∀ j u, (L.map rdV)[j]? = some u → w.cell? (ad'.add j) = some u from fun ad' e j u hu => by
      cases e
      exact (S.out.out.below hb).news _ rfl j u hu)
    go_enter Try.func82, Try.ntmps82
    go_wp2_with (at_builtin; refine wpList_append_at rfl (.tmp 5) (.tmp 6) 35 rfl W.heap.size 42 i0 (.slice none 0 0) 1 24 Try.underlying35 hi0 hz0 hz1 hz2 rfl (by decide) _ _ _ rfl O.out _ _ _ (L.map rdV) rfl (by have := X.out; simp [this]) (fun e => by cases e) (NW.out _ ((Below.refl _ _).alloc (Nat.le_refl _) _)) (ones_r _) (by unfold maxLen; omega) (by omega) (by simp) ?_
                 intro v2 w2 hown2 hgr2 hat2
                 have hb2 : Below W.heap.size W w2 := ((Below.refl _ _).alloc (Nat.le_refl _) _).grown hgr2 (by simp) (fun k h => (O.out.lt k h).1)
                 try rw [Nat.zero_add, List.nil_append] at hown2
                 obtain ⟨a2, cap2, rfl⟩ := own_form hown2
                 have R := Lib.hid (And.intro hown2 hb2)
                 clear hown2 hgr2 hb2 hat2)
    go_ret
    exact ⟨a2, cap2, rfl, R.out.1, R.out.2⟩

theorem cl_clone {W : World} {a : Option Addr} {cap n : Nat} {xs : List Nat} (h : SlAt qV QM W a cap xs) (hn : xs.length = n) (hl : n ≤ 1000000) :
    Calls Try.prog 46 #[.slice a n cap] W fun e w' => ∃ a' c', e = .returned (.slice a' n c') ∧ Below W.heap.size W w' ∧ w'.ownsRow W.heap.size 29 1 (.slice a' n c') n (xs.map qV) :=
  (vclone_any h hn hl).mono fun e w ⟨a, cap, h1, h2, h3, h4, h5⟩ => ⟨a, cap, by rw [h1, hn], h3, by rw [hn] at h5; exact h5⟩

def ClR (U : World) (n : Nat) (s : Value) (L : List Rd) (i : Value) (wr : World) : Prop :=
  ∃ (k : Nat) (K : List Rd), k ≤ n ∧ i = .int .i64 (k : Nat) ∧ K.length = k ∧ mOf K = (mOf L).take k ∧ ParSq 42 U.heap.size wr s K (L.drop k) ∧ Below U.heap.size U wr

set_option maxRecDepth 20000 in
set_option maxHeartbeats 8000000 in
theorem mclone_any {W : World} {a : Option Addr} {cap n : Nat} {L : List Rd} {z : Int} (h : SqV W a cap L) (hn : L.length = n) (hl : n ≤ 10000) (hl2 : ∀ r ∈ L, r.l.length ≤ 10000) :
    Calls Try.prog 65 #[.agg #[.int .i64 z, .slice a n cap]] W fun e w' => ∃ a' cap' K, e = .returned (.agg #[.int .i64 z, .slice a' n cap']) ∧ mOf K = mOf L ∧ K.length = n ∧ OwnSq 42 W.heap.size w' (.slice a' n cap') K ∧ Below W.heap.size W w' := by
  obtain ⟨U, hU⟩ : ∃ U, U = (W.alloc (.cells #[.int .i64 z, .slice a n cap] 37)).alloc (.cells #[.int .i64 0, .slice none 0 0] 37) := ⟨_, rfl⟩
  have hb : Below W.heap.size W U := by rw [hU]; exact below_alloc (box_b W _) _
  have C1 : Cel 2 U W.heap.size (mkC z (.slice a n cap)) := by rw [hU]; exact (box_new W z _ _).below (box_b _ _)
  have C2 : Cel 2 U (W.heap.size + 1) (mkC 0 (.slice none 0 0)) := by
    have := box_new (W.alloc (.cells #[.int .i64 z, .slice a n cap] 37)) 0 (.slice none 0 0) 37
    rw [← hU, show (W.alloc (.cells #[.int .i64 z, .slice a n cap] 37)).heap.size = W.heap.size + 1 by simp] at this
    exact this
  have p1 : U.cell? ⟨W.heap.size, 1, none⟩ = some (.slice a n cap) := C1.c 1 (by decide)
  have CR := Lib.hid (rclone_any (h.below hb) hn (by omega))
  have S := Lib.hid (h.below hb)
  have P1 := Lib.hid C1
  have T := Lib.hid C2
  have HB := Lib.hid hb
  have HU := Lib.hid hU.symm
  have HN := Lib.hid hn
  have HL := Lib.hid hl2
  clear hU hb C1 C2 h hn hl2
  go_enter Try.func65, Try.ntmps65
  go_wp2_with fail
  rw [HU.out]
  go_wp2_with fail
  refine CR.out.mono ?_
  rintro e w1 ⟨sa, sc, rfl, hO, hb1⟩
  have I0 := Lib.hid (show ClR U n (.slice sa n sc) L (.int .i64 0) w1 from ⟨0, [], Nat.zero_le _, rfl, rfl, rfl, ParSq.start hO HN.out, hb1⟩)
  clear hO hb1 p1 CR HU
  go_wp2_with fail
  go_loopw [11] (fun i wr => ClR U n (.slice sa n sc) L i wr) (fun i _ => n - (intOf i).toNat)
  case atStart => exact I0.out
  case round =>
    obtain ⟨k, K, hk, rfl, hlK, hm, hP, hb⟩ := hrel
    clear I0
    by_cases hlt : k < n
    · have kl : k < L.length := by rw [HN.out]; exact hlt
      rw [List.drop_eq_getElem_cons kl] at hP
      obtain ⟨gs, cs, es, -, -, hc0⟩ := hP.look
      simp only [Value.slice.injEq] at es
      obtain ⟨rfl, -, rfl⟩ := es
      rw [hlK] at hc0
      have CC := Lib.hid (cl_clone ((S.out.row kl).below hb) rfl (by have := HL.out _ (List.getElem_mem kl); omega))
      have FIN := Lib.hid (fun (w3 : World) (a : Option Addr) (c : Nat) (g1 : Below wr.heap.size wr w3) (g2 : w3.ownsRow wr.heap.size 29 1 (.slice a L[k].l.length c) L[k].l.length (L[k].l.map qV)) =>
        show ∃ c9, w3.cell? ⟨gs, k, none⟩ = some c9 ∧ w3.frozen? ⟨gs, k, none⟩ = false ∧ ClR U n (.slice (some ⟨gs, 0, none⟩) n sc) L (.int .i64 ((k + 1 : Nat) : Int)) (w3.setCell ⟨gs, k, none⟩ (.slice a L[k].l.length c)) from by
          obtain ⟨g, cap, e, hB, -, z1, z2, z3⟩ := hP.next g1 g2 hb.size (S.out.row kl).lt
          simp only [Value.slice.injEq, Option.some.injEq, Addr.mk.injEq, and_true] at e
          obtain ⟨rfl, -⟩ := e
          rw [hlK] at z1 z2 z3
          exact ⟨_, z1, z2, k + 1, _, by omega, rfl, by simp [hlK], by rw [List.take_succ_eq_append_getElem (by rw [mOf_len]; exact kl), mOf_at kl, ← hm]; simp [mOf], z3, (hb.trans (g1.mono hb.size)).setCell hB _⟩)
      have j0 : (0 : Int) ≤ (k : Int) := by omega
      have j1 : (k : Int) < (n : Int) := by omega
      clear hP hm hlK hb
      generalize L[k] = x at *
      clear kl
      obtain ⟨xa, xc, xl⟩ := x
      simp only at CC FIN hc0
      generalize xl.length = x1 at *
      go_wp2_with (go_at_call 46; refine CC.out.mono ?_; rintro e w3 ⟨a3, c3, rfl, hb3, ho3⟩; obtain ⟨c9, k1, k2, k3⟩ := FIN.out w3 a3 c3 hb3 ho3; have R := Lib.hid k3; clear hb3 ho3 k3)
      go_roundw
      case rel => exact R.out
      case measure => simp only [intOf]; omega
    · obtain rfl : k = n := by omega
      have dk : decide ((k : Int) < (k : Int)) = false := decide_eq_false (by omega)
      rw [List.drop_eq_nil_of_le (by rw [HN.out]; exact Nat.le_refl _)] at hP
      rw [List.take_of_length_le (by rw [mOf_len, HN.out]; exact Nat.le_refl _)] at hm
      have T1 := T.out.below hb
      have b0 : wr.cell? ⟨W.heap.size, 0, none⟩ = some (.int .i64 z) := (P1.out.below hb).c 0 (by decide)
      have d0 : wr.cell? ⟨W.heap.size + 1, 0, none⟩ = some (.int .i64 0) := T1.c 0 (by decide)
      have d1 : wr.cell? ⟨W.heap.size + 1, 1, none⟩ = some (.slice none 0 0) := T1.c 1 (by decide)
      have f0 := T1.fz 0
      have f1 := T1.fz 1
      have T2 := (T1.put 0 (.int .i64 z)).put 1 (.slice sa k sc)
      have r0 : ((wr.setCell ⟨W.heap.size + 1, 0, none⟩ (.int .i64 z)).setCell ⟨W.heap.size + 1, 1, none⟩ (.slice sa k sc)).cell? ⟨W.heap.size + 1, 0, none⟩ = some (.int .i64 z) := T2.c 0 (by decide)
      have r1 : ((wr.setCell ⟨W.heap.size + 1, 0, none⟩ (.int .i64 z)).setCell ⟨W.heap.size + 1, 1, none⟩ (.slice sa k sc)).cell? ⟨W.heap.size + 1, 1, none⟩ = some (.slice sa k sc) := T2.c 1 (by decide)
      have o := hP.done
      have fo : OffP (W.heap.size + 1) (.slice sa k sc) K := o.off (Or.inl T.out.lt)
      have o2 := ((o.put_off fo 0 (.int .i64 z)).put_off fo 1 (.slice sa k sc)).mono HB.out.size
      have B2 := ((HB.out.trans (hb.mono HB.out.size)).setCell (p := ⟨W.heap.size + 1, 0, none⟩) (by simp) (.int .i64 z)).setCell (p := ⟨W.heap.size + 1, 1, none⟩) (by simp) (.slice sa k sc)
      have R := Lib.hid (And.intro hm (And.intro hlK (And.intro o2 B2)))
      clear hP hm hlK hb T1 T2 o fo o2 B2
      go_wp2_with fail
      refine bodyPost_ret (v := .agg #[.int .i64 z, .slice sa k sc]) (by simp [results, Try.results65, go_sem, r0, r1]) rfl ?_
      exact ⟨_, _, K, rfl, R.out⟩

end Go.Proofs.Ytopnagjbdjicaaa

/-
  mat.Column.
-/
namespace Go.Proofs.Ytopnagjbdjicaaa
open Go.RowKit

def ClmR (U : World) (N : Nat) (j : Nat) (m : List (List Nat)) (s i : Value) (wr : World) : Prop :=
  ∃ (k : Nat) (xs : List Nat), k ≤ N ∧ i = .int .i64 (k : Nat) ∧ xs.length = N ∧ (∀ t, t < k → atN xs t = atN (m.getD t []) j) ∧ (∀ x ∈ xs, x < QM) ∧ wr.ownsRow U.heap.size 29 1 s N (xs.map qV) ∧ Below U.heap.size U wr

theorem ClmR.step {U wr w3 : World} {N j k v : Nat} {m : List (List Nat)} {s : Value} {xs : List Nat} (hk : k < N) (hx : xs.length = N) (ha : ∀ t, t < k → atN xs t = atN (m.getD t []) j) (hq : ∀ x ∈ xs, x < QM) (ho : wr.ownsRow U.heap.size 29 1 s N (xs.map qV)) (hb : Below U.heap.size U wr) (h3 : Below wr.heap.size wr w3) (hv : atN (m.getD k []) j = v) (hv2 : v < QM) :
    ∃ g cap c9, s = .slice (some ⟨g, 0, none⟩) N cap ∧ w3.cell? ⟨g, k, none⟩ = some c9 ∧ w3.frozen? ⟨g, k, none⟩ = false ∧ ClmR U N j m s (.int .i64 ((k + 1 : Nat) : Int)) (w3.setCell ⟨g, k, none⟩ (.int .u64 (v : Int))) := by
  subst hv
  have ho3 := own_below ho h3
  obtain ⟨g, cap, e, hg1, hg2⟩ := ho.form (by omega)
  subst e
  have hc := ho3.cellAt k (by omega)
  rw [List.getElem?_map, List.getElem?_eq_getElem (by omega)] at hc
  have hst := (ho3.stored k (.int .u64 ((atN (m.getD k []) j : Nat) : Int))).1
  refine ⟨g, cap, _, rfl, hc, ho3.frozenAt k, k + 1, xs.set k (atN (m.getD k []) j), by omega, rfl, by simpa using hx, fun t ht => ?_, fun x hx' => ?_, ?_, (hb.trans (h3.mono hb.size)).setCell hg1 _⟩
  · rw [set_atN (by omega)]
    by_cases e : t = k
    · rw [if_pos e, e]
    · rw [if_neg e]; exact ha t (by omega)
  · rcases List.mem_or_eq_of_mem_set hx' with h | rfl
    · exact hq x h
    · exact hv2
  · rw [List.map_set]
    exact hst

theorem colM_no {z : Int} {m : List (List Nat)} {j : Int} (h : ¬ (goodM z m = true ∧ 0 ≤ j ∧ j < z)) : colM z m j = [] := if_neg h
theorem colM_yes {n j : Nat} {m : List (List Nat)} (h : goodM (n : Int) m = true) (hj : j < n) : colM (n : Int) m (j : Int) = m.map fun r => atN r j := by
  unfold colM
  rw [if_pos ⟨h, by omega, by omega⟩, Int.toNat_natCast]
theorem ClmR.fin {U wr : World} {N j : Nat} {m : List (List Nat)} {a : Option Addr} {cap : Nat} {xs : List Nat} (hm : m.length = N) (hx : xs.length = N) (ha : ∀ t, t < N → atN xs t = atN (m.getD t []) j) (hq : ∀ x ∈ xs, x < QM) (ho : wr.ownsRow U.heap.size 29 1 (.slice a N cap) N (xs.map qV)) :
    SlAt qV QM wr a cap (m.map fun r => atN r j) := by
  obtain ⟨-, a2, c2, e, hs⟩ := own_sl ho hq
  have : xs = m.map fun r => atN r j := row_ext (by simp [hx, hm]) fun t ht => by
    rw [ha t (by omega), atN_of (xs := m.map fun r => atN r j) (by simp; omega)]
    simp [List.getD, List.getElem?_eq_getElem (show t < m.length by omega)]
  rw [this] at hs e
  simp only [Value.slice.injEq] at e
  obtain ⟨rfl, -, rfl⟩ := e
  exact hs

set_option maxRecDepth 20000 in
set_option maxHeartbeats 4000000 in
theorem mcol_at {A : Nat → Prop} {W : World} {a : Option Addr} {cap n : Nat} {m : List (List Nat)} {z j : Int} (h : SqAt A W a cap n m) {r : List Nat} (hr : colM z m j = r) {k : Nat} (hk : r.length = k) :
    Calls Try.prog 67 #[.agg #[.int .i64 z, .slice a n cap], .int .i64 j] W fun e w' => ∃ a' cap', e = .returned (.slice a' k cap') ∧ SlAt qV QM w' a' cap' r ∧ Below W.heap.size W w' := by
  subst hk
  obtain ⟨U, hU⟩ : ∃ U, U = W.alloc (.cells #[.int .i64 z, .slice a n cap] 37) := ⟨_, rfl⟩
  have hb : Below W.heap.size W U := by rw [hU]; exact box_b W _
  have C1 : Cel 2 U W.heap.size (mkC z (.slice a n cap)) := by rw [hU]; exact box_new W z _ _
  have p0 : U.cell? ⟨W.heap.size, 0, none⟩ = some (.int .i64 z) := C1.c 0 (by decide)
  have p1 : U.cell? ⟨W.heap.size, 1, none⟩ = some (.slice a n cap) := C1.c 1 (by decide)
  obtain ⟨g, hg⟩ : ∃ b, b = goodM z m := ⟨_, rfl⟩
  have CG := Lib.hid (mgood_at (h.below hb) hg.symm)
  have S := Lib.hid (h.below hb)
  have P := Lib.hid C1
  have HB := Lib.hid hb
  have HU := Lib.hid hU.symm
  have HG := Lib.hid hg
  have HR := Lib.hid hr
  clear hU hb C1 h hg hr
  go_enter Try.func67, Try.ntmps67
  go_wp2_with fail
  rw [HU.out]
  go_wp2_with fail
  refine CG.out.mono ?_
  rintro e w1 ⟨rfl, hb1⟩
  have q0 : w1.cell? ⟨W.heap.size, 0, none⟩ = some (.int .i64 z) := (P.out.below hb1).c 0 (by decide)
  have R0 := Lib.hid (HB.out.trans (hb1.mono HB.out.size))
  replace P := Lib.hid (P.out.below hb1)
  replace S := Lib.hid (S.out.below hb1)
  clear p0 p1 hb1 CG HU HB
  cases g
  · obtain rfl : r = [] := by rw [← HR.out]; exact colM_no (fun h => by rw [← HG.out] at h; cases h.1)
    go_wp2_with fail
    go_ret
    exact ⟨none, 0, rfl, SlAt.none _ _ _, R0.out⟩
  · by_cases hj : 0 ≤ j ∧ j < z
    · have CW := Lib.hid (mwithin_any (W := w1) (i := j) (z := z) (decide_eq_true hj))
      obtain ⟨N, rfl, hN1, hN2, hN3, hN4⟩ := goodM_is HG.out.symm
      obtain ⟨jn, rfl⟩ : ∃ q : Nat, j = q := ⟨j.toNat, by omega⟩
      have hjn : jn < N := by omega
      obtain rfl : N = n := by rw [← hN3, S.out.len]
      have hr2 : m.map (fun r => atN r jn) = r := by rw [← HR.out, colM_yes HG.out.symm hjn]
      subst hr2
      have L := Lib.hid hN3
      have CN := Lib.hid (cl_new w1 (z := (N : Int)) (n := N) (by unfold newN; omega) rfl)
      clear hN3 hN4 hj HG HR
      go_wp2_with (first
        | (go_at_call 47; refine CW.out.mono ?_; rintro e w' ⟨rfl, rfl⟩)
        | (go_at_call 35; refine CN.out.mono ?_; rintro e w2 ⟨ca, cc, rfl, -, hb2, -, ho2⟩))
      have I0 := Lib.hid (show ClmR w1 N jn m (.slice ca N cc) (.int .i64 0) w2 from ⟨0, List.replicate N 0, Nat.zero_le _, rfl, by simp, fun t ht => by omega, zeros_lt N, ho2, hb2⟩)
      clear hb2 ho2 CN CW
      go_loopw [22] (fun i wr => ClmR w1 N jn m (.slice ca N cc) i wr) (fun i _ => N - (intOf i).toNat)
      case atStart => exact I0.out
      case round =>
        obtain ⟨k, xs, hk, rfl, hx, ha, hq, ho, hb⟩ := hrel
        clear I0
        by_cases hlt : k < N
        · have e0 : wr.cell? ⟨W.heap.size, 0, none⟩ = some (.int .i64 (N : Int)) := (P.out.below hb).c 0 (by decide)
          have e1 : wr.cell? ⟨W.heap.size, 1, none⟩ = some (.slice a N cap) := (P.out.below hb).c 1 (by decide)
          have hv : atM m (k : Int) (jn : Int) = atN (m.getD k []) jn := by rw [atM_in, atZ_nat]
          have hv2 : atN (m.getD k []) jn < QM := by
            obtain ⟨_, _, _, _, _, _, hs⟩ := (S.out).row hlt
            exact atN_lt (by decide) hs.lt jn
          have CA := Lib.hid (mat_any (z := (N : Int)) ((S.out).below hb) hv)
          have FIN := Lib.hid (fun (w3 : World) (h3 : Below wr.heap.size wr w3) => ClmR.step (w3 := w3) hlt hx ha hq ho hb h3 rfl hv2)
          obtain ⟨gs, cap9, es, -⟩ := ho.form (by omega)
          simp only [Value.slice.injEq] at es
          obtain ⟨rfl, -, rfl⟩ := es
          have j0 : (0 : Int) ≤ (k : Int) := by omega
          have j1 : (k : Int) < (N : Int) := by omega
          clear hx ha hq ho hb hv hv2
          generalize atN (m.getD k []) jn = v at *
          go_wp2_with (go_at_call 17; refine CA.out.mono ?_; rintro e w3 ⟨rfl, hb3⟩; obtain ⟨g9, cap8, c9, e9, k1, k2, k3⟩ := FIN.out w3 hb3; cases e9; have R := Lib.hid k3; clear hb3 k3)
          go_roundw
          case rel => exact R.out
          case measure => simp only [intOf]; omega
        · obtain rfl : k = N := by omega
          have dk : decide ((k : Int) < (k : Int)) = false := decide_eq_false (by omega)
          have R := Lib.hid (And.intro (ClmR.fin L.out hx ha hq ho) (R0.out.trans (hb.mono R0.out.size)))
          have ll := L.out
          clear hx ha hq ho hb
          go_wp2_with fail
          go_ret
          exact ⟨_, _, by rw [List.length_map, ll]; rfl, R.out⟩
    · have CW := Lib.hid (mwithin_any (W := w1) (i := j) (z := z) (decide_eq_false hj))
      obtain rfl : r = [] := by rw [← HR.out]; exact colM_no (fun h => hj h.2)
      go_wp2_with (go_at_call 47; refine CW.out.mono ?_; rintro e w' ⟨rfl, rfl⟩)
      go_ret
      exact ⟨none, 0, rfl, SlAt.none _ _ _, R0.out⟩

end Go.Proofs.Ytopnagjbdjicaaa

/-
  Squares written out in the text; small helps.
-/
namespace Go.Proofs.Ytopnagjbdjicaaa
open Go.RowKit

/-- A square written out in the text: rows made ahead of it. -/
theorem sq_lit {w : World} {L : List Rd} {cs : Array Value} {t : TypeId} {n : Nat} {m : List (List Nat)} (hcs : cs = (L.map rdV).toArray) (hn : L.length = n) (hm : mOf L = m) (hmx : n ≤ maxLen) (he : ∀ r ∈ L, SlAt qV QM w r.a r.c r.l) : SqAt (fun _ => True) (w.alloc (.cells cs t)) (some ⟨w.heap.size, 0, none⟩) n n m := by
  subst hcs hn hm
  refine SqAt.of ⟨?_, fun r hr => (he r hr).below (below_alloc (Below.refl _ _) _)⟩ rfl
  exact slv_lit w (L.map rdV) _ t L.length rfl (by simp) hmx

def lit22 (w : World) (a b c d : Nat) : World := ((w.alloc (.cells #[.int .u64 (a : Int), .int .u64 (b : Int)] 29)).alloc (.cells #[.int .u64 (c : Int), .int .u64 (d : Int)] 29)).alloc (.cells #[.slice (some ⟨w.heap.size, 0, none⟩) 2 2, .slice (some ⟨w.heap.size + 1, 0, none⟩) 2 2] 41)
theorem lit22_below (w : World) (a b c d : Nat) : Below w.heap.size w (lit22 w a b c d) := below_alloc (below_alloc (below_alloc (Below.refl _ _) _) _) _
theorem lit22_sq (w : World) {a b c d : Nat} (ha : a < 1000) (hb : b < 1000) (hc : c < 1000) (hd : d < 1000) : SqAt (fun _ => True) (lit22 w a b c d) (some ⟨w.heap.size + 1 + 1, 0, none⟩) 2 2 [[a, b], [c, d]] := by
  have l1 := ql_lit w [a, b] #[.int .u64 (a : Int), .int .u64 (b : Int)] 29 2 rfl rfl (by intro x hx; simp at hx; omega) (by unfold maxLen; omega)
  have l2 := ql_lit (w.alloc (.cells #[.int .u64 (a : Int), .int .u64 (b : Int)] 29)) [c, d] #[.int .u64 (c : Int), .int .u64 (d : Int)] 29 2 rfl rfl (by intro x hx; simp at hx; omega) (by unfold maxLen; omega)
  rw [size_one] at l2
  have l1' := l1.below (below_alloc (Below.refl _ _) (.cells #[.int .u64 (c : Int), .int .u64 (d : Int)] 29))
  have h := sq_lit (w := (w.alloc (.cells #[.int .u64 (a : Int), .int .u64 (b : Int)] 29)).alloc (.cells #[.int .u64 (c : Int), .int .u64 (d : Int)] 29)) (L := [⟨some ⟨w.heap.size, 0, none⟩, 2, [a, b]⟩, ⟨some ⟨w.heap.size + 1, 0, none⟩, 2, [c, d]⟩])
    (cs := #[.slice (some ⟨w.heap.size, 0, none⟩) 2 2, .slice (some ⟨w.heap.size + 1, 0, none⟩) 2 2]) (t := 41) (n := 2) (m := [[a, b], [c, d]]) rfl rfl rfl (by unfold maxLen; omega) (fun r hr => by
      rcases List.mem_cons.1 hr with rfl | hr
      · exact l1'
      · rw [List.mem_singleton.1 hr]; exact l2)
  rw [size_one, size_one] at h
  exact h

theorem two_go {w w' : World} {q : Nat} {u v : Value} (h0 : w.cell? ⟨q, 0, none⟩ = some u) (h1 : w.cell? ⟨q, 1, none⟩ = some v) (f : ∀ o, w.frozen? ⟨q, o, none⟩ = false) (hb : Below w.heap.size w w') : Cel 2 w' q (fun o => if o = 0 then u else v) :=
  Cel.below ⟨fun o ho => (by rcases (show o = 0 ∨ o = 1 by omega) with rfl | rfl; exact h0; exact h1), f, cell_lt h0⟩ hb
theorem cell_far {w : World} {p q i a b : Nat} {u v : Value} (h : p ≠ q) : ((w.setCell ⟨q, a, none⟩ u).setCell ⟨q, b, none⟩ v).cell? ⟨p, i, none⟩ = w.cell? ⟨p, i, none⟩ :=
  (World.cell?_of_block (w := w.setCell ⟨q, a, none⟩ u) (a := ⟨p, i, none⟩) (Below.heap_setCell _ _ _ _ h)).trans (World.cell?_of_block (w := w) (a := ⟨p, i, none⟩) (Below.heap_setCell _ _ _ _ h))
theorem of_cell {w : World} {b : Nat} {x : Int} {s : Nat} (h : w.cell? ⟨b, 0, none⟩ = some (.int .i64 x)) (hx : IntOk x) (hs : bitN x = s) :
    Calls Try.prog 11 #[.slice (some ⟨b, 0, none⟩) 1 1] w fun e w' => e = .returned (.int .u64 (s : Nat)) ∧ w = w' :=
  of_end (xs := [x]) ⟨by simp, by unfold maxLen; omega, (fun e => by cases e), fun i hi => by
    obtain rfl : i = 0 := by simpa using hi
    exact ⟨b, 0, rfl, cell_lt h, h⟩⟩ (by simpa using hx) rfl (by rw [← hs]; simp [ofN])
theorem drew_b {w w' : World} {q : Nat} (h : w' = w.drewN q) : Below w.heap.size w w' := by rw [h]; exact ⟨rfl, rfl, rfl, Nat.le_refl _, fun _ _ => rfl⟩

end Go.Proofs.Ytopnagjbdjicaaa

/-
  mat.New: its rows are the caller's own.
-/
namespace Go.Proofs.Ytopnagjbdjicaaa
open Go.RowKit

theorem FillV.finO {W U wr : World} {p t n : Nat} {z : Int} {a : Option Addr} {cap : Nat} {K : List Rd} {V : Nat → Value} (h : FillV U wr p z (.slice a n cap) K []) (ht : Cel 2 U t V) (hW : Below W.heap.size W U) (hWt : W.heap.size ≤ t) :
    (wr.cell? ⟨t, 0, none⟩ = some (V 0) ∧ wr.cell? ⟨t, 1, none⟩ = some (V 1) ∧ wr.frozen? ⟨t, 0, none⟩ = false ∧ wr.frozen? ⟨t, 1, none⟩ = false ∧ wr.cell? ⟨p, 0, none⟩ = some (.int .i64 z) ∧ wr.cell? ⟨p, 1, none⟩ = some (.slice a n cap)) ∧
    ((wr.setCell ⟨t, 0, none⟩ (.int .i64 z)).setCell ⟨t, 1, none⟩ (.slice a n cap)).cell? ⟨t, 0, none⟩ = some (.int .i64 z) ∧
    ((wr.setCell ⟨t, 0, none⟩ (.int .i64 z)).setCell ⟨t, 1, none⟩ (.slice a n cap)).cell? ⟨t, 1, none⟩ = some (.slice a n cap) ∧
    (OwnSq 42 W.heap.size ((wr.setCell ⟨t, 0, none⟩ (.int .i64 z)).setCell ⟨t, 1, none⟩ (.slice a n cap)) (.slice a n cap) K ∧ Below W.heap.size W ((wr.setCell ⟨t, 0, none⟩ (.int .i64 z)).setCell ⟨t, 1, none⟩ (.slice a n cap))) := by
  have T1 : Cel 2 wr t V := ht.below h.b
  have T2 := (T1.put 0 (.int .i64 z)).put 1 (.slice a n cap)
  have o := h.sq.done
  have f1 : OffP t (.slice a n cap) K := o.off (Or.inl ht.lt)
  have o2 := (o.put_off f1 0 (.int .i64 z)).put_off f1 1 (.slice a n cap)
  exact ⟨⟨T1.c 0 (by decide), T1.c 1 (by decide), T1.fz 0, T1.fz 1, h.c.c 0 (by decide), h.c.c 1 (by decide)⟩, T2.c 0 (by decide), T2.c 1 (by decide), o2.mono hW.size, ((hW.trans (h.b.mono hW.size)).setCell hWt _).setCell hWt _⟩

set_option maxRecDepth 20000 in
set_option maxHeartbeats 4000000 in
theorem mnew_own {W : World} {n : Nat} {z : Int} (hz : (n : Int) = z) (h1 : 1 ≤ n) (h2 : n ≤ 16) :
    Calls Try.prog 32 #[.int .i64 z] W fun e w' => ∃ a' cap' K, e = .returned (.tuple #[.agg #[.int .i64 z, .slice a' n cap'], .int .i64 0]) ∧ OwnSq 42 W.heap.size w' (.slice a' n cap') K ∧ K.length = n ∧ mOf K = zerosM n ∧ Below W.heap.size W w' := by
  obtain ⟨U, hU⟩ : ∃ U, U = W.alloc (.cells #[.int .i64 0, .slice none 0 0] 37) := ⟨_, rfl⟩
  have hb : Below W.heap.size W U := by rw [hU]; exact box_b W _
  have T1 : Cel 2 U W.heap.size (mkC 0 (.slice none 0 0)) := by rw [hU]; exact box_new W 0 _ _
  have CS := Lib.hid (msized_any (W := U) (z := z) (r := true) (decide_eq_true ⟨by omega, by omega⟩))
  have hmk := make_rows n hz (by omega)
  obtain ⟨w0, hw0⟩ : ∃ w0, w0 = (U.alloc (.cells (madeCells #[.slice none 0 0] n) 42)).alloc (.cells #[.int .i64 z, .slice (some ⟨U.heap.size, 0, none⟩) n n] 37) := ⟨_, rfl⟩
  have I0 : NwR U (U.heap.size + 1) n z (.slice (some ⟨U.heap.size, 0, none⟩) n n) (.int .i64 0) w0 := by
    have hp := (ParSq.start (own_made U n (by omega)) (by simp)).below (box_b _ (.cells #[.int .i64 z, .slice (some ⟨U.heap.size, 0, none⟩) n n] 37))
    have hc := box_new (U.alloc (.cells (madeCells #[.slice none 0 0] n) 42)) z (.slice (some ⟨U.heap.size, 0, none⟩) n n) 37
    rw [show (U.alloc (.cells (madeCells #[.slice none 0 0] n) 42)).heap.size = U.heap.size + 1 by simp] at hc
    rw [← hw0] at hp hc
    refine ⟨0, [], Nat.zero_le _, rfl, rfl, by simp, hp, hc, ⟨by simp [Value.ownBlock], by simp⟩, by omega, ?_⟩
    rw [hw0]
    exact below_alloc (box_b U _) _
  have HI := Lib.hid I0
  have HU := Lib.hid hU.symm
  have HW0 := Lib.hid hw0.symm
  have HB := Lib.hid hb
  have HT := Lib.hid T1
  have HZ := Lib.hid hz
  have hcell : w0.cell? ⟨U.heap.size + 1, 1, none⟩ = some (.slice (some ⟨U.heap.size, 0, none⟩) n n) := by
    obtain ⟨k, K, -, -, -, -, hF⟩ := I0
    exact hF.c.c 1 (by decide)
  clear hU hw0 hb T1 I0 hz
  go_enter Try.func32, Try.ntmps32
  go_wp2_with fail
  rw [HU.out]
  go_wp2_with (go_at_call 63; refine CS.out.mono ?_; rintro e w' ⟨rfl, rfl⟩)
  rw [HW0.out]
  clear HU HW0 hmk CS hcell
  go_loopw [17] (fun i wr => NwR U (U.heap.size + 1) n z (.slice (some ⟨U.heap.size, 0, none⟩) n n) i wr) (fun i _ => n - (intOf i).toNat)
  case atStart => exact HI.out
  case round =>
    obtain ⟨k, K, hk, rfl, hl, hK, hF⟩ := hrel
    clear HI
    by_cases hlt : k < n
    · rw [show n - k = (n - (k + 1)) + 1 by omega, List.replicate_succ] at hF
      have c1 : wr.cell? ⟨U.heap.size + 1, 1, none⟩ = some (.slice (some ⟨U.heap.size, 0, none⟩) n n) := hF.c.c 1 (by decide)
      have c1d : wr.drew.cell? ⟨U.heap.size + 1, 1, none⟩ = some (.slice (some ⟨U.heap.size, 0, none⟩) n n) := c1
      have CN := Lib.hid (vnew_at wr.drew HZ.out h2)
      have FIN := Lib.hid (fun (w3 : World) (a : Option Addr) (c : Nat) (g1 : Below wr.drew.heap.size wr.drew w3) (g2 : w3.ownsRow wr.drew.heap.size 29 1 (.slice a (List.replicate n 0).length c) (List.replicate n 0).length ((List.replicate n 0).map qV)) =>
        show ∃ c9, w3.cell? ⟨U.heap.size, k, none⟩ = some c9 ∧ w3.frozen? ⟨U.heap.size, k, none⟩ = false ∧ w3.cell? ⟨U.heap.size + 1, 1, none⟩ = some (.slice (some ⟨U.heap.size, 0, none⟩) n n) ∧ NwR U (U.heap.size + 1) n z (.slice (some ⟨U.heap.size, 0, none⟩) n n) (.int .i64 ((k + 1 : Nat) : Int)) (w3.setCell ⟨U.heap.size, k, none⟩ (.slice a n c)) from by
          obtain ⟨g, cap, e, x1, x2, x3, x4⟩ := hF.drew.next g1 g2 (zeros_lt n)
          simp only [Value.slice.injEq, Option.some.injEq, Addr.mk.injEq, and_true] at e
          obtain ⟨rfl, -⟩ := e
          rw [hl] at x1 x2 x4
          rw [List.length_replicate] at x4
          exact ⟨_, x1, x2, x3, k + 1, _, by omega, rfl, by simp [hl], fun r hr => (List.mem_append.1 hr).elim (hK r) (fun h => by rw [List.mem_singleton.1 h]), x4⟩)
      have j0 : (0 : Int) ≤ (k : Int) := by omega
      have j1 : (k : Int) < (n : Int) := by omega
      clear hF hl hK
      go_wp2_with fail
      go_region_law (go_simp; go_at_call 35; refine CN.out.mono ?_; rintro e w3 ⟨a3, c3, rfl, hb3, ho3⟩; obtain ⟨c9, k1, k2, k4, k3⟩ := FIN.out w3 a3 c3 hb3 ho3; have R := Lib.hid k3; clear hb3 ho3 k3)
      all_goals
        try go_simp
        go_wp2_with fail
        go_roundw
        case rel => exact R.out
        case measure => simp only [intOf]; omega
    · obtain rfl : k = n := by omega
      have dk : decide ((k : Int) < (k : Int)) = false := decide_eq_false (by omega)
      rw [Nat.sub_self, List.replicate_zero] at hF
      obtain ⟨⟨d0, d1, f0, f1, e0, e1⟩, r0, r1, hR⟩ := hF.finO HT.out HB.out (Nat.le_refl _)
      have R := Lib.hid (And.intro hR.1 (And.intro hl (And.intro (zerosM_is hl hK) hR.2)))
      clear hR hF hl hK
      go_wp2_with fail
      refine bodyPost_ret (v := .tuple #[.agg #[.int .i64 z, .slice (some ⟨U.heap.size, 0, none⟩) k k], .int .i64 0]) (by simp [results, Try.results32, go_sem, r0, r1]) rfl ?_
      exact ⟨_, _, K, rfl, R.out⟩

end Go.Proofs.Ytopnagjbdjicaaa
