/-
  Texts of this claim, put together.
-/
import Derived.Test.YtopnagjbdjicaaaMai
import Derived.Test.YtopnagjbdjicaaaCup0m
import Derived.Test.YtopnagjbdjicaaaMaj
import Derived.Test.YtopnagjbdjicaaaMae

/-
  Who knows all: squares as bytes, and read again; an engine as plain data.
-/
namespace Go.Proofs.Ytopnagjbdjicaaa
open Go.RowKit

/-! Squares as bytes. -/
def rowL (r : List Nat) : List Nat := r.flatMap lebL
def stampL (m : List (List Nat)) : List Nat := m.flatMap rowL
theorem rowL_more (r : List Nat) (x : Nat) : rowL (r ++ [x]) = rowL r ++ lebL x := by simp [rowL]
theorem stampL_more (m : List (List Nat)) (r : List Nat) : stampL (m ++ [r]) = stampL m ++ rowL r := by simp [stampL]
theorem rowL_take {r : List Nat} {k : Nat} (h : k < r.length) : rowL (r.take (k + 1)) = rowL (r.take k) ++ lebL r[k] := by
  rw [List.take_succ_eq_append_getElem h, rowL_more]
theorem stampL_take {m : List (List Nat)} {k : Nat} (h : k < m.length) : stampL (m.take (k + 1)) = stampL (m.take k) ++ rowL m[k] := by
  rw [List.take_succ_eq_append_getElem h, stampL_more]
theorem rowL_cons (x : Nat) (r : List Nat) : rowL (x :: r) = lebL x ++ rowL r := by simp [rowL]
theorem stampL_cons (r : List Nat) (m : List (List Nat)) : stampL (r :: m) = rowL r ++ stampL m := by simp [stampL]
theorem rowL_len {r : List Nat} (h : ∀ x ∈ r, x < QM) : (rowL r).length ≤ 10 * r.length := by
  induction r with
  | nil => simp [rowL]
  | cons x r ih =>
    have h1 := (leb_len (n := x) (h x (by simp))).2
    have h2 := ih fun y hy => h y (by simp [hy])
    rw [rowL_cons, List.length_append, List.length_cons]
    omega
theorem stampL_len {m : List (List Nat)} {n : Nat} (hn : ∀ r ∈ m, r.length ≤ n) (h : ∀ r ∈ m, ∀ x ∈ r, x < QM) : (stampL m).length ≤ 10 * n * m.length := by
  induction m with
  | nil => simp [stampL]
  | cons r m ih =>
    have h1 := rowL_len (h r (by simp))
    have h2 := ih (fun y hy => hn y (by simp [hy])) (fun y hy => h y (by simp [hy]))
    have h3 := hn r (by simp)
    rw [stampL_cons, List.length_append, List.length_cons, Nat.mul_succ]
    have : 10 * r.length ≤ 10 * n := by omega
    omega
theorem lebL_byte (n : Nat) : ∀ x ∈ lebL n, x < 256 := by
  induction n using Nat.strongRecOn with
  | ind n ih =>
    intro x hx
    by_cases h : n < 128
    · rw [lebL_lo h] at hx
      rw [List.mem_singleton.1 hx]; omega
    · rw [lebL_hi h] at hx
      rcases List.mem_cons.1 hx with rfl | hx
      · omega
      · exact ih (n / 128) (by omega) x hx
theorem rowL_byte (r : List Nat) : ∀ x ∈ rowL r, x < 256 := fun x hx => by
  obtain ⟨y, _, hy⟩ := List.mem_flatMap.1 hx
  exact lebL_byte y x hy
theorem stampL_byte (m : List (List Nat)) : ∀ x ∈ stampL m, x < 256 := fun x hx => by
  obtain ⟨y, _, hy⟩ := List.mem_flatMap.1 hx
  exact rowL_byte y x hy
theorem rowL_small {r : List Nat} (h : ∀ x ∈ r, x < 128) : rowL r = r := by
  induction r with
  | nil => rfl
  | cons x r ih => rw [rowL_cons, lebL_lo (h x (by simp)), ih fun y hy => h y (by simp [hy])]; rfl
theorem stampL_small {m : List (List Nat)} (h : ∀ r ∈ m, ∀ x ∈ r, x < 128) : stampL m = m.flatten := by
  induction m with
  | nil => rfl
  | cons r m ih => rw [stampL_cons, rowL_small (h r (by simp)), ih fun y hy => h y (by simp [hy])]; rfl

/-! .. and read again. -/
def rowR : Nat → Option (List Nat) → List Nat × Option (List Nat)
  | 0, s => ([], s)
  | k + 1, s => ((rowR k s).1 ++ [(numR 18446744073709551615 (rowR k s).2).1], (numR 18446744073709551615 (rowR k s).2).2)
def matR (n : Nat) : Nat → Option (List Nat) → List (List Nat) × Option (List Nat)
  | 0, s => ([], s)
  | k + 1, s => ((matR n k s).1 ++ [(rowR n (matR n k s).2).1], (rowR n (matR n k s).2).2)
theorem rowR_len (k : Nat) (s : Option (List Nat)) : (rowR k s).1.length = k := by
  induction k with
  | zero => rfl
  | succ k ih => rw [rowR, List.length_append, ih]; rfl
theorem matR_len (n k : Nat) (s : Option (List Nat)) : (matR n k s).1.length = k := by
  induction k with
  | zero => rfl
  | succ k ih => rw [matR, List.length_append, ih]; rfl
theorem rowR_lt (k : Nat) (s : Option (List Nat)) : ∀ x ∈ (rowR k s).1, x < QM := by
  induction k with
  | zero => intro x hx; cases hx
  | succ k ih =>
    intro x hx
    rw [rowR] at hx
    rcases List.mem_append.1 hx with hx | hx
    · exact ih x hx
    · rw [List.mem_singleton.1 hx]; exact numR_lt _ _
theorem matR_row (n k : Nat) (s : Option (List Nat)) : ∀ r ∈ (matR n k s).1, r.length = n ∧ ∀ x ∈ r, x < QM := by
  induction k with
  | zero => intro x hx; cases hx
  | succ k ih =>
    intro r hr
    rw [matR] at hr
    rcases List.mem_append.1 hr with hr | hr
    · exact ih r hr
    · rw [List.mem_singleton.1 hr]; exact ⟨rowR_len _ _, rowR_lt _ _⟩
def readM (z : Int) (b : List Nat) : Option (List (List Nat)) := if 1 ≤ z ∧ z ≤ 16 then if endR (matR z.toNat z.toNat (some b)).2 then some (matR z.toNat z.toNat (some b)).1 else none else none
theorem readM_no {z : Int} {b : List Nat} (h : ¬ (1 ≤ z ∧ z ≤ 16)) : readM z b = none := if_neg h
theorem readM_yes {n : Nat} {b : List Nat} (h1 : 1 ≤ n) (h2 : n ≤ 16) : readM (n : Int) b = if endR (matR n n (some b)).2 then some (matR n n (some b)).1 else none := by
  unfold readM
  rw [if_pos ⟨by omega, by omega⟩, Int.toNat_natCast]
theorem readM_good {z : Int} {b : List Nat} {m : List (List Nat)} (h : readM z b = some m) : goodM z m = true ∧ ∀ r ∈ m, ∀ x ∈ r, x < QM := by
  by_cases hz : 1 ≤ z ∧ z ≤ 16
  · obtain ⟨n, rfl⟩ : ∃ n : Nat, z = n := ⟨z.toNat, by omega⟩
    rw [readM_yes (by omega) (by omega)] at h
    split at h
    · cases h
      exact ⟨goodM_of (by omega) (by omega) (matR_len ..) fun r hr => (matR_row _ _ _ r hr).1, fun r hr => (matR_row _ _ _ r hr).2⟩
    · cases h
  · rw [readM_no hz] at h; cases h
theorem row_back {xs q : List Nat} (h : ∀ x ∈ xs, x < QM) {k : Nat} (hk : k ≤ xs.length) : rowR k (some (rowL xs ++ q)) = (xs.take k, some (rowL (xs.drop k) ++ q)) := by
  induction k with
  | zero => simp [rowR]
  | succ k ih =>
    have hlt : k < xs.length := by omega
    have hx : xs[k] < 18446744073709551616 := h _ (List.getElem_mem _)
    rw [rowR, ih (by omega), List.drop_eq_getElem_cons hlt, rowL_cons, List.append_assoc, num_back hx (by omega), List.take_succ_eq_append_getElem hlt]
theorem mat_back {m : List (List Nat)} {q : List Nat} {n : Nat} (hn : ∀ r ∈ m, r.length = n) (h : ∀ r ∈ m, ∀ x ∈ r, x < QM) {k : Nat} (hk : k ≤ m.length) : matR n k (some (stampL m ++ q)) = (m.take k, some (stampL (m.drop k) ++ q)) := by
  induction k with
  | zero => simp [matR]
  | succ k ih =>
    have hlt : k < m.length := by omega
    have e : m[k].length = n := hn _ (List.getElem_mem _)
    have hr := row_back (q := stampL (m.drop (k + 1)) ++ q) (h _ (List.getElem_mem hlt)) (k := n) (Nat.le_of_eq e.symm)
    rw [List.take_of_length_le (show m[k].length ≤ n by omega), List.drop_eq_nil_of_le (show m[k].length ≤ n by omega)] at hr
    rw [matR, ih (by omega), List.drop_eq_getElem_cons hlt, stampL_cons, List.append_assoc, hr, List.take_succ_eq_append_getElem hlt]
    rfl
theorem read_back {z : Int} {m : List (List Nat)} (g : goodM z m = true) (h : ∀ r ∈ m, ∀ x ∈ r, x < QM) : readM z (stampL m) = some m := by
  obtain ⟨n, rfl, h1, h2, h3, h4⟩ := goodM_is g
  have := mat_back (q := []) h4 h (k := n) (by omega)
  rw [List.append_nil, List.take_of_length_le (show m.length ≤ n by omega), List.drop_eq_nil_of_le (show m.length ≤ n by omega)] at this
  rw [readM_yes h1 h2, this]
  rfl

/-! An engine. -/
structure En where
  n : Nat
  me : Nat
  S : List (List Nat)
  G : List Nat
structure En.ok (e : En) : Prop where
  n1 : 1 ≤ e.n
  n2 : e.n ≤ 16
  me : e.me < e.n
  S : goodM (e.n : Int) e.S = true
  lt : ∀ r ∈ e.S, ∀ x ∈ r, x < QM
  G : e.G.length = e.n
  gt : ∀ x ∈ e.G, x < QM
def newE (n me : Nat) : En := ⟨n, me, zerosM n, List.replicate n 0⟩
/-- Those that are sent to. -/
def toE (n me to : Nat) : Nat := (to &&& allN (n : Int)) &&& (18446744073709551615 - 2 ^ me)
def sendE (e : En) (to : Nat) : En := { e with S := upM (e.n : Int) e.S (e.me : Int) (toE e.n e.me to) }
def needE (e : En) (m : List (List Nat)) : Bool := (List.range e.n).all fun k => decide (atN (m.getD k []) e.me ≤ atN e.G k)
def canE (e : En) (f : Int) (b : List Nat) : Bool := (readM (e.n : Int) b).any fun m => decide (0 ≤ f ∧ f < e.n ∧ f ≠ e.me) && needE e m
def takeE (e : En) (f : Int) (to : Nat) (b : List Nat) : En := if canE e f b then { e with G := upR e.G f, S := joinM e.S (upM (e.n : Int) ((readM (e.n : Int) b).getD []) f to) } else e

end Go.Proofs.Ytopnagjbdjicaaa

/-
  mat.Up.
-/
namespace Go.Proofs.Ytopnagjbdjicaaa
open Go.RowKit

theorem ParSq.of {T : TypeId} {B : Nat} {w : World} {s : Value} {K : List Rd} (h : OwnSq T B w s K) : ParSq T B w s K [] :=
  ⟨by rw [List.length_nil, Nat.add_zero, List.append_nil]; exact h.out, h.row, h.lt, h.ap, h.aw⟩
theorem FillV.below {U wr w' : World} {p : Nat} {z : Int} {s : Value} {K M : List Rd} (h : FillV U wr p z s K M) (hb : Below wr.heap.size wr w') : FillV U w' p z s K M :=
  ⟨h.sq.below hb, h.c.below hb, h.off, h.hp, h.b.trans (hb.mono h.b.size)⟩
theorem FillV.setrow {U wr w1 : World} {p i : Nat} {z : Int} {s : Value} {K : List Rd} {a : Option Addr} {c : Nat} {xs : List Nat} (h : FillV U wr p z s K []) (hi : i < K.length) (h1 : Below wr.heap.size wr w1) (hr : w1.ownsRow wr.heap.size 29 1 (.slice a xs.length c) xs.length (xs.map qV)) (hx : ∀ x ∈ xs, x < QM) :
    ∃ g cap, s = .slice (some ⟨g, 0, none⟩) K.length cap ∧ g < wr.heap.size ∧ w1.cell? ⟨g, i, none⟩ = some (rdV K[i]) ∧ w1.frozen? ⟨g, i, none⟩ = false ∧ w1.cell? ⟨p, 1, none⟩ = some s ∧
      FillV U (w1.setCell ⟨g, i, none⟩ (.slice a xs.length c)) p z s (K.set i ⟨a, c, xs⟩) [] := by
  have o := h.sq.done
  obtain ⟨g, cap, e, hB, hc, hf, hP⟩ := o.setrow hi h1 hr h.b.size hx
  have hpg : p ≠ g := fun e2 => h.off.1 (by rw [e, e2]; rfl)
  refine ⟨g, cap, e, (o.out.lt g (by rw [e]; rfl)).2, hc, hf, (h.c.below h1).c 1 (by decide), ParSq.of hP, ?_, ⟨h.off.1, fun r hr' => ?_⟩, h.hp, ?_⟩
  · exact (h.c.below h1).keep (F := fun j => j = g) ((Keep.refl _ _).put _ _) hpg
  · rcases List.mem_or_eq_of_mem_set hr' with hr' | rfl
    · exact h.off.2 r hr'
    · intro e2
      have := hr.lt p e2
      have := h.c.lt
      omega
  · exact (h.b.trans (h1.mono h.b.size)).setCell hB _

def UpmR (U : World) (B2 p n i : Nat) (z : Int) (m : List (List Nat)) (s : Value) (js : List Nat) (la : Option Addr) (lc : Nat) (v : Value) (wr : World) : Prop :=
  ∃ (k : Nat) (K : List Rd), k ≤ js.length ∧ v = .int .i64 (k : Nat) ∧ K.length = n ∧ mOf K = m.set i (upsL (m.getD i []) (js.take k)) ∧ FillV U wr p z s K [] ∧ wr.ownsRow B2 3 1 (.slice la js.length lc) js.length (js.map nV)

theorem UpmR.step {U wr w3 : World} {B2 p n i k gs sc : Nat} {z : Int} {m : List (List Nat)} {js : List Nat} {la : Option Addr} {lc : Nat} {K : List Rd} {a : Option Addr} {c : Nat} {xs : List Nat}
    (hi : i < n) (hn : m.length = n) (hk : k < js.length) (hl : K.length = n) (hm : mOf K = m.set i (upsL (m.getD i []) (js.take k))) (hF : FillV U wr p z (.slice (some ⟨gs, 0, none⟩) n sc) K []) (hO : wr.ownsRow B2 3 1 (.slice la js.length lc) js.length (js.map nV)) (hg : gs < B2)
    (h1 : Below wr.heap.size wr w3) (hr : w3.ownsRow wr.heap.size 29 1 (.slice a xs.length c) xs.length (xs.map qV)) (hx : ∀ x ∈ xs, x < QM) (hxs : xs = upsL (m.getD i []) (js.take (k + 1))) :
    ∃ c9, w3.cell? ⟨gs, i, none⟩ = some c9 ∧ w3.frozen? ⟨gs, i, none⟩ = false ∧ w3.cell? ⟨p, 1, none⟩ = some (.slice (some ⟨gs, 0, none⟩) n sc) ∧ UpmR U B2 p n i z m (.slice (some ⟨gs, 0, none⟩) n sc) js la lc (.int .i64 ((k + 1 : Nat) : Int)) (w3.setCell ⟨gs, i, none⟩ (.slice a xs.length c)) := by
  obtain ⟨g, cap, e, -, z1, z2, z3, z4⟩ := hF.setrow (i := i) (by omega) h1 hr hx
  simp only [Value.slice.injEq, Option.some.injEq, Addr.mk.injEq, and_true] at e
  obtain ⟨rfl, -⟩ := e
  refine ⟨_, z1, z2, z3, k + 1, _, by omega, rfl, by simpa using hl, ?_, z4, ?_⟩
  · have : mOf (K.set i ⟨a, c, xs⟩) = (mOf K).set i xs := by simp [mOf, List.map_set]
    rw [this, hm, List.set_set, hxs]
  · refine own_carry (own_below hO h1) fun j hj => Below.heap_setCell _ _ _ _ (fun e => ?_)
    have h2 := (hO.lt j hj).1
    have h3 : j = gs := e
    omega
theorem UpmR.row {m : List (List Nat)} {i : Nat} {K : List Rd} {xs : List Nat} (hi : i < K.length) (hm : mOf K = m.set i xs) (hn : i < m.length) : K[i].l = xs := by
  rw [← mOf_at hi]
  have : (mOf K)[i]'(by rw [mOf_len]; exact hi) = (m.set i xs)[i]'(by simpa using hn) := getElem_congr_coll hm
  rw [this, List.getElem_set_self]

set_option maxRecDepth 20000 in
set_option maxHeartbeats 8000000 in
theorem mup_new {A : Nat → Prop} {W : World} {a : Option Addr} {cap n : Nat} {m : List (List Nat)} {z i : Int} {to : Nat} (h : SqAt A W a cap n m) (hl : n ≤ 10000) (hl2 : ∀ r ∈ m, r.length ≤ 10000) (hto : to < 18446744073709551616) :
    Calls Try.prog 39 #[.agg #[.int .i64 z, .slice a n cap], .int .i64 i, .int .u64 (to : Int)] W fun e w' => ∃ a' cap', e = .returned (.agg #[.int .i64 z, .slice a' n cap']) ∧ SqR (fun _ => False) W n (upM z m i to) a' cap' w' := by
  obtain ⟨U, hU⟩ : ∃ U, U = (W.alloc (.cells #[.int .i64 z, .slice a n cap] 37)).alloc (.cells #[.int .i64 0, .slice none 0 0] 37) := ⟨_, rfl⟩
  have hb : Below W.heap.size W U := by rw [hU]; exact below_alloc (box_b W _) _
  have C1 : Cel 2 U W.heap.size (mkC z (.slice a n cap)) := by rw [hU]; exact (box_new W z _ _).below (box_b _ _)
  have C2 : Cel 2 U (W.heap.size + 1) (mkC 0 (.slice none 0 0)) := by
    have := box_new (W.alloc (.cells #[.int .i64 z, .slice a n cap] 37)) 0 (.slice none 0 0) 37
    rw [← hU, show (W.alloc (.cells #[.int .i64 z, .slice a n cap] 37)).heap.size = W.heap.size + 1 by simp] at this
    exact this
  have p0 : U.cell? ⟨W.heap.size, 0, none⟩ = some (.int .i64 z) := C1.c 0 (by decide)
  have p1 : U.cell? ⟨W.heap.size, 1, none⟩ = some (.slice a n cap) := C1.c 1 (by decide)
  have hcl : Calls Try.prog 65 #[.agg #[.int .i64 z, .slice a n cap]] U fun e w' => ∃ a' cap' K, e = .returned (.agg #[.int .i64 z, .slice a' n cap']) ∧ mOf K = m ∧ K.length = n ∧ OwnSq 42 U.heap.size w' (.slice a' n cap') K ∧ Below U.heap.size U w' := by
    obtain ⟨L, rfl, l, s, -⟩ := h.below hb
    exact mclone_any s l hl (fun r hr => hl2 _ (List.mem_map.2 ⟨r, hr, rfl⟩))
  obtain ⟨g, hg⟩ : ∃ b, b = goodM z m := ⟨_, rfl⟩
  have CC := Lib.hid hcl
  have S := Lib.hid (h.below hb)
  have P := Lib.hid C1
  have T := Lib.hid C2
  have HB := Lib.hid hb
  have HU := Lib.hid hU.symm
  have HG := Lib.hid hg
  have HT := Lib.hid hto
  clear hU hb C1 C2 hcl h hg hl2 hto
  go_enter Try.func39, Try.ntmps39
  go_wp2_with fail
  rw [HU.out]
  go_wp2_with fail
  refine CC.out.mono ?_
  rintro e w1 ⟨sa, sc, K, rfl, hm, hK, hO, hb1⟩
  obtain ⟨w2, hw2⟩ : ∃ w2, w2 = w1.alloc (.cells #[.int .i64 z, .slice sa n sc] 37) := ⟨_, rfl⟩
  have b2 : Below w1.heap.size w1 w2 := by rw [hw2]; exact box_b _ _
  have F := Lib.hid (show FillV U w2 w1.heap.size z (.slice sa n sc) K [] from
    ⟨ParSq.of (hO.below b2), by rw [hw2]; exact box_new w1 z _ _, hO.off (Or.inr (Nat.le_refl _)), hb1.size, hb1.trans (b2.mono hb1.size)⟩)
  have HM := Lib.hid hm
  have HK := Lib.hid hK
  have HW2 := Lib.hid hw2.symm
  have k0 : w2.cell? ⟨W.heap.size, 0, none⟩ = some (.int .i64 z) := (P.out.below F.out.b).c 0 (by decide)
  have k1 : w2.cell? ⟨W.heap.size, 1, none⟩ = some (.slice a n cap) := (P.out.below F.out.b).c 1 (by decide)
  have CG := Lib.hid (mgood_at (S.out.below F.out.b) HG.out.symm)
  rw [hw2] at k0 k1
  clear hm hK hw2 hO hb1 b2 CC p0 p1
  go_wp2_with fail
  rw [HW2.out]
  clear HW2 k0 k1
  generalize w1.heap.size = p at *
  refine CG.out.mono ?_
  rintro e w3 ⟨rfl, hb3⟩
  have q0 : w3.cell? ⟨W.heap.size, 0, none⟩ = some (.int .i64 z) := (P.out.below (F.out.b.trans (hb3.mono F.out.b.size))).c 0 (by decide)
  replace F := Lib.hid (F.out.below hb3)
  clear hb3 CG
  have v0 : w3.cell? ⟨p, 0, none⟩ = some (.int .i64 z) := F.out.c.c 0 (by decide)
  have v1 : w3.cell? ⟨p, 1, none⟩ = some (.slice sa n sc) := F.out.c.c 1 (by decide)
  obtain ⟨⟨d0, d1, f0, f1, e0, e1⟩, r0, r1, hR⟩ := F.out.fin HK.out HM.out T.out HB.out (by omega)
  by_cases hgi : g = true ∧ 0 ≤ i ∧ i < z
  · clear hR r0 r1 d0 d1 f0 f1 e0 e1
    obtain ⟨rfl, hi⟩ := hgi
    have CW := Lib.hid (mwithin_any (W := w3) (i := i) (z := z) (decide_eq_true hi))
    obtain ⟨N, rfl, hN1, hN2, hN3, hN4⟩ := goodM_is HG.out.symm
    obtain ⟨q, rfl⟩ : ∃ q : Nat, i = q := ⟨i.toNat, by omega⟩
    have hqN : q < N := by omega
    obtain rfl : N = n := by rw [← hN3, S.out.len]
    have hal := allN_lt (N : Int)
    have CA := Lib.hid (all_any (N : Int) w3 (by unfold IntOk; omega))
    have hand := u64_and_nat to (allN (N : Int)) HT.out hal
    have hs : to &&& allN (N : Int) < 18446744073709551616 := Nat.lt_of_le_of_lt Nat.and_le_left HT.out
    have CL := Lib.hid (list_own (to &&& allN (N : Int)) w3 hs)
    have J := Lib.hid (show upM (N : Int) m (q : Int) to = m.set q (upsL (m.getD q []) (listN (to &&& allN (N : Int)))) from by
      have x1 : ∀ x ∈ m.getD q [], x < QM := fun x hx => by
        obtain ⟨_, _, _, _, _, _, hsl⟩ := S.out.row (i := q) hqN
        exact hsl.lt x hx
      have x2 : (m.getD q []).length = N := by
        rw [List.getD, List.getElem?_eq_getElem (by omega)]
        exact hN4 _ (List.getElem_mem _)
      rw [upM_yes HG.out.symm hqN, ups_set x1 x2 (by omega)])
    have JL := Lib.hid (list_in (to := to) (n := N))
    have QL := Lib.hid (show ∀ x ∈ m.getD q [], x < QM from fun x hx => by
      obtain ⟨_, _, _, _, _, _, hsl⟩ := S.out.row (i := q) hqN
      exact hsl.lt x hx)
    have QN := Lib.hid (show (m.getD q []).length = N from by
      rw [List.getD, List.getElem?_eq_getElem (by omega)]
      exact hN4 _ (List.getElem_mem _))
    have HN := Lib.hid hN3
    clear hs hal hN3 hN4 hi
    generalize allN (N : Int) = al at *
    generalize to &&& al = st at *
    have h64 : (listN st).length ≤ 64 := toN_len st 64
    generalize listN st = js at *
    go_wp2_with (first
      | (go_at_call 47; refine CW.out.mono ?_; rintro e w' ⟨rfl, rfl⟩)
      | (go_at_call 34; refine CA.out.mono ?_; rintro e w' ⟨rfl, rfl⟩)
      | (go_at_call 66; refine CL.out.mono ?_; rintro e w4 ⟨la, lc, rfl, hO4, hb4⟩))
    have hqm : q < m.length := by rw [HN.out]; exact hqN
    obtain ⟨gs, sc9, es, -, -⟩ := F.out.sq.done.look (i := q) (by rw [HK.out]; exact hqN)
    rw [HK.out] at es
    simp only [Value.slice.injEq, true_and] at es
    obtain ⟨rfl, rfl⟩ := es
    have GL := Lib.hid (show gs < w3.heap.size from (F.out.sq.done.out.lt gs rfl).2)
    have I0 := Lib.hid (show UpmR U w3.heap.size p N q (N : Int) m (.slice (some ⟨gs, 0, none⟩) N sc) js la lc (.int .i64 0) w4 from
      ⟨0, K, Nat.zero_le _, rfl, HK.out, by rw [HM.out, List.take_zero, upsL_nil, List.getD, List.getElem?_eq_getElem hqm]; simp, F.out.below hb4, hO4⟩)
    clear hb4 hO4 CW CA CL hand v0 v1 q0 HK HM F K
    generalize w3.heap.size = B2 at *
    go_loopw [30] (fun i wr => UpmR U B2 p N q (N : Int) m (.slice (some ⟨gs, 0, none⟩) N sc) js la lc i wr) (fun i _ => js.length - (intOf i).toNat)
    case atStart => exact I0.out
    case round =>
      obtain ⟨k, K, hk, rfl, hl, hm, hF, hO⟩ := hrel
      clear I0
      have hjl := hO.form
      by_cases hlt : k < js.length
      · obtain ⟨gl, lc9, el, -, -⟩ := hO.form (by omega)
        simp only [Value.slice.injEq, true_and] at el
        obtain ⟨rfl, rfl⟩ := el
        have hcl := hO.cellAt k (by omega)
        rw [List.getElem?_map, List.getElem?_eq_getElem hlt] at hcl
        have kc : wr.cell? ⟨gl, k, none⟩ = some (.int .i64 ((js[k] : Nat) : Int)) := hcl
        have hqK : q < K.length := by omega
        have eK := UpmR.row hqK hm hqm
        obtain ⟨g8, c8, e8, -, hrc⟩ := hF.sq.done.look hqK
        rw [hl] at e8
        simp only [Value.slice.injEq, Option.some.injEq, Addr.mk.injEq, and_true, true_and] at e8
        obtain ⟨rfl, -⟩ := e8
        obtain ⟨a9, c9, -, hsq, -⟩ := hF.sq.done.sq
        have bR := hsq.each _ (List.getElem_mem hqK)
        have rc0 : wr.cell? ⟨gs, q, none⟩ = some (.slice K[q].a K[q].l.length K[q].c) := hrc
        have rcd : wr.drew.cell? ⟨gs, q, none⟩ = some (.slice K[q].a K[q].l.length K[q].c) := hrc
        have u1 : wr.cell? ⟨p, 1, none⟩ = some (.slice (some ⟨gs, 0, none⟩) N sc) := hF.c.c 1 (by decide)
        have u1d : wr.drew.cell? ⟨p, 1, none⟩ = some (.slice (some ⟨gs, 0, none⟩) N sc) := u1
        have hJ : (∀ j ∈ js, j < (m.getD q []).length) := fun j hj => by rw [QN.out]; exact JL.out j hj
        have nK : K[q].l.length = N := by rw [eK, upsL_len (fun j hj => hJ j (List.mem_of_mem_take hj)), QN.out]
        have eN : upR K[q].l ((js[k] : Nat) : Int) = upsL (m.getD q []) (js.take (k + 1)) := by rw [eK, upsL_take hlt]
        have lN : (upsL (m.getD q []) (js.take (k + 1))).length = N := by rw [upsL_len (fun j hj => hJ j (List.mem_of_mem_take hj)), QN.out]
        have CU := Lib.hid (cl_up (bR.below (drew_below wr)) nK (by omega) rfl eN lN)
        have FIN := Lib.hid (fun (w5 : World) (a : Option Addr) (c : Nat) (g1 : Below wr.drew.heap.size wr.drew w5) (g2 : w5.ownsRow wr.drew.heap.size 29 1 (.slice a N c) N ((upsL (m.getD q []) (js.take (k + 1))).map qV)) =>
          UpmR.step (xs := upsL (m.getD q []) (js.take (k + 1))) hqN HN.out hlt hl hm hF.drew (own_below hO (drew_below wr)) GL.out g1 (by rw [lN]; exact g2) (upsL_lt QL.out) rfl)
        rw [lN] at FIN
        have j0 : (0 : Int) ≤ (k : Int) := by omega
        have j1 : (k : Int) < (js.length : Int) := by omega
        have q1 : (0 : Int) ≤ (q : Int) := by omega
        have q2 : (q : Int) < (N : Int) := by omega
        rw [nK] at rc0 rcd
        clear hF hO hm hl hcl hrc eK hsq bR hJ nK eN lN hjl
        generalize upsL (m.getD q []) (js.take (k + 1)) = rr at *
        generalize K[q] = x at *
        obtain ⟨xa, xc, xl⟩ := x
        simp only at rc0 rcd CU
        clear hqK
        generalize js[k] = jk at *
        generalize mayUp xl (jk : Int) = mb at *
        go_wp2_with fail
        go_region_law (go_simp; go_at_call 41; refine CU.out.mono ?_; rintro e w5 ⟨a3, c3, rfl, -, hb3, -, ho3⟩; obtain ⟨c9, k1, k2, k4, k3⟩ := FIN.out w5 a3 c3 hb3 ho3; have R := Lib.hid k3; clear hb3 ho3 k3)
        all_goals
          try go_simp
          go_wp2_with fail
          go_roundw
          case rel => exact R.out
          case measure => simp only [intOf]; omega
      · obtain rfl : k = js.length := by omega
        have dk : decide ((js.length : Int) < (js.length : Int)) = false := decide_eq_false (by omega)
        rw [List.take_of_length_le (Nat.le_refl _), ← J.out] at hm
        obtain ⟨⟨d0, d1, f0, f1, e0, e1⟩, r0, r1, hR⟩ := hF.fin hl hm T.out HB.out (by omega)
        have R := Lib.hid hR
        clear hR hF hl hm hO hjl
        go_wp2_with fail
        refine bodyPost_ret (v := .agg #[.int .i64 (N : Int), .slice (some ⟨gs, 0, none⟩) N sc]) (by simp [results, Try.results39, go_sem, r0, r1]) rfl ?_
        exact ⟨_, _, rfl, R.out⟩
  · have R := Lib.hid (show SqR (fun _ => False) W n (upM z m i to) sa sc _ from (upM_no (fun h => hgi ⟨HG.out.trans h.1, h.2⟩)).symm ▸ hR)
    have CW := Lib.hid (fun (hh : g = true) => mwithin_any (W := w3) (i := i) (z := z) (r := false) (decide_eq_false (fun h => hgi ⟨hh, h⟩)))
    clear hR hgi
    cases g
    · go_wp2_with fail
      refine bodyPost_ret (v := .agg #[.int .i64 z, .slice sa n sc]) (by simp [results, Try.results39, go_sem, r0, r1]) rfl ?_
      exact ⟨_, _, rfl, R.out⟩
    · have CW2 := Lib.hid (CW.out rfl)
      clear CW
      go_wp2_with (go_at_call 47; refine CW2.out.mono ?_; rintro e w' ⟨rfl, rfl⟩)
      refine bodyPost_ret (v := .agg #[.int .i64 z, .slice sa n sc]) (by simp [results, Try.results39, go_sem, r0, r1]) rfl ?_
      exact ⟨_, _, rfl, R.out⟩

theorem mup_at {A : Nat → Prop} {W : World} {a : Option Addr} {cap n : Nat} {m : List (List Nat)} {z i : Int} {to : Nat} (h : SqAt A W a cap n m) (hl : n ≤ 10000) (hl2 : ∀ r ∈ m, r.length ≤ 10000) (hto : to < 18446744073709551616) :
    Calls Try.prog 39 #[.agg #[.int .i64 z, .slice a n cap], .int .i64 i, .int .u64 (to : Int)] W fun e w' => ∃ a' cap', e = .returned (.agg #[.int .i64 z, .slice a' n cap']) ∧ SqR A W n (upM z m i to) a' cap' w' :=
  (mup_new h hl hl2 hto).mono fun _ _ ⟨a, c, e, h, hb⟩ => ⟨a, c, e, h.mono (fun _ _ hk => hk.elim (fun h => h.elim) Or.inr), hb⟩

end Go.Proofs.Ytopnagjbdjicaaa
