/-
  Texts of this claim, put together.
-/
import Derived.Test.YtfbojcaedcimcaaNseqm
import Derived.Test.YtfbojcaedcimcaaMag
import Derived.Test.YtfbojcaedcimcaaMac
import Derived.Deep.RegionLaw

/-
  The program's dock, in memory.
-/
namespace Go.Proofs.Ytfbojcaedcimcaa
open Go.RowKit

/-- Any value, as it is. -/
def anyR (v : Value) : Option (DataW Value × List MemPlace) := some (.held v, [])

/-- What a map tells of those that it holds. -/
structure Vw (D : DataW Value) (E : List (Nat × Bd)) : Prop where
  look : ∀ n z, D.atKey (kN n) z = (match E.lookup n with | some b => .held (bdV b) | none => z)
  has : ∀ n, Maps.has D (kN n) = (E.lookup n).isSome
  size : Maps.size D = E.length

theorem vw_nil : Vw (.map []) [] := ⟨fun _ _ => rfl, fun _ => rfl, rfl⟩
theorem Vw.put {D : DataW Value} {E : List (Nat × Bd)} (h : Vw D E) (hT : Maps.Tidy D) (n : Nat) (b : Bd) (hn : E.lookup n = none) : Vw (D.put (kN n) (.held (bdV b))) (ins n b E) := by
  refine ⟨fun m z => ?_, fun m => ?_, ?_⟩
  · by_cases e : m = n
    · subst e
      rw [Maps.atKey_put_same hT.isMap (kN_key m), lookup_same b E hn]
    · rw [Maps.atKey_put_other (fun e' => e (kN_inj e')), lookup_other b e, h.look]
  · by_cases e : m = n
    · subst e
      rw [Maps.has_put_same hT.isMap (kN_key m), lookup_same b E hn]
      rfl
    · rw [Maps.has_put_other (fun e' => e (kN_inj e')), lookup_other b e, h.has]
  · rw [Maps.size_put hT, h.has, hn, ins_len, h.size]
    rfl
theorem Vw.del {D : DataW Value} {n hi : Nat} {b : Bd} {t : List (Nat × Bd)} (h : Vw D ((n, b) :: t)) (hT : Maps.Tidy D) (hu : Up n hi ((n, b) :: t)) : Vw (D.del (kN n)) t := by
  have hn : t.lookup n = none := lookup_none.2 (fun x hx => by have := (hu.tail.2 x hx).1; simp only at this; omega)
  refine ⟨fun m z => ?_, fun m => ?_, ?_⟩
  · by_cases e : m = n
    · subst e
      rw [Maps.atKey_del_same, hn]
    · rw [Maps.atKey_del_other (fun e' => e (kN_inj e')), h.look, lookup_cons', if_neg e]
  · by_cases e : m = n
    · subst e
      rw [Maps.has_del_same, hn]
      rfl
    · rw [Maps.has_del_other (fun e' => e (kN_inj e')), h.has, lookup_cons', if_neg e]
  · have := Maps.size_del hT (k := kN n)
    rw [h.has, lookup_cons', if_pos rfl, h.size] at this
    simpa using this

/-- Its cells. -/
def dkC (win next q : Nat) : Nat → Value
  | 0 => .int .u64 ((win : Nat) : Int)
  | 1 => .int .u64 ((next : Nat) : Int)
  | _ => .map (some q)

/-- A dock in block p, its map in block q; bodies from block M on. -/
structure DkV (Z : Nat → Prop) (w : World) (p q M win next : Nat) (E : List (Nat × Bd)) : Prop where
  c : Cel 3 w p (dkC win next q)
  pM : p < M
  qM : q < M
  ne : p ≠ q
  size : M ≤ w.heap.size
  map : ∃ D, w.ownsMap Try.prog 33 anyR q E.length D ∧ Vw D E
  body : ∀ x ∈ E, BodyV (fun k => M ≤ k ∧ Z k) w x.2

def DkAt (Z : Nat → Prop) (w : World) (p q M : Nat) (S : Dk) : Prop := ∃ E, DkV Z w p q M S.win S.next E ∧ mapN Bd.s E = S.held

theorem ownsMap_tight {w : World} {b n : Nat} {D : DataW Value} (h : w.ownsMap Try.prog 33 anyR b n D) {m : Nat} (hm : Maps.size D = m) : w.ownsMap Try.prog 33 anyR b m D := by
  obtain ⟨es, clock, hb, F, _, rfl⟩ := h
  refine ⟨es, clock, hb, F, ?_, rfl⟩
  rw [← hm]
  simp [Maps.size, length_sorted]
theorem ownsMap_block {w w' : World} {b n : Nat} {D : DataW Value} (h : w.ownsMap Try.prog 33 anyR b n D) (hb : w'.heap[b]? = w.heap[b]?) : w'.ownsMap Try.prog 33 anyR b n D := by
  obtain ⟨es, clock, h1, r⟩ := h
  exact ⟨es, clock, hb.trans h1, r⟩

section
variable {Z : Nat → Prop} {w w' : World} {p q M win next : Nat} {E : List (Nat × Bd)} {S : Dk} {F : Nat → Prop}
/-- It stays while others are written, below M. -/
theorem DkV.keep (h : DkV Z w p q M win next E) (hk : Keep F w w') (hp : ¬ F p) (hq : ¬ F q) (hF : ∀ k, k < w.heap.size → M ≤ k ∧ Z k → ¬ F k) : DkV Z w' p q M win next E := by
  obtain ⟨D, hD, hV⟩ := h.map
  refine ⟨h.c.keep hk hp, h.pM, h.qM, h.ne, Nat.le_trans h.size hk.size, ⟨D, ownsMap_block hD (hk.block q (Nat.lt_of_lt_of_le h.qM h.size) hq), hV⟩, fun x hx => (h.body x hx).carry hk.size (fun k hk1 hk2 => hk.block k hk1 (hF k hk1 hk2))⟩
/-- Its bodies lie elsewhere too. -/
theorem DkV.mono {Y : Nat → Prop} (h : DkV Z w p q M win next E) (hY : ∀ k, k < w.heap.size → Z k → Y k) : DkV Y w p q M win next E :=
  ⟨h.c, h.pM, h.qM, h.ne, h.size, h.map, fun x hx => (h.body x hx).mono (fun k hk hA => ⟨hA.1, hY k hk hA.2⟩)⟩
theorem DkAt.mono {Y : Nat → Prop} (h : DkAt Z w p q M S) (hY : ∀ k, k < w.heap.size → Z k → Y k) : DkAt Y w p q M S := by
  obtain ⟨E, h1, h2⟩ := h
  exact ⟨E, h1.mono hY, h2⟩
theorem DkV.below (h : DkV Z w p q M win next E) (hb : Below w.heap.size w w') : DkV Z w' p q M win next E := h.keep (F := fun _ => False) (Keep.ofBelow hb) id id (fun _ _ _ => id)
theorem DkAt.keep (h : DkAt Z w p q M S) (hk : Keep F w w') (hp : ¬ F p) (hq : ¬ F q) (hF : ∀ k, k < w.heap.size → M ≤ k ∧ Z k → ¬ F k) : DkAt Z w' p q M S := by
  obtain ⟨E, h1, h2⟩ := h
  exact ⟨E, h1.keep hk hp hq hF, h2⟩
theorem DkAt.below (h : DkAt Z w p q M S) (hb : Below w.heap.size w w') : DkAt Z w' p q M S := h.keep (F := fun _ => False) (Keep.ofBelow hb) id id (fun _ _ _ => id)
theorem DkV.cells (h : DkV Z w p q M win next E) : w.cell? ⟨p, 0, none⟩ = some (.int .u64 ((win : Nat) : Int)) ∧ w.cell? ⟨p, 1, none⟩ = some (.int .u64 ((next : Nat) : Int)) ∧ w.cell? ⟨p, 2, none⟩ = some (.map (some q)) :=
  ⟨h.c.c 0 (by decide), h.c.c 1 (by decide), h.c.c 2 (by decide)⟩
end

theorem keyed : Maps.Keyed Try.prog 33 := Maps.int_keyed Try.underlying33
theorem keyOf_n {n : Nat} (hn : n < 18446744073709551616) : keyOf Try.prog 33 (uN n) = some (kN n) := by
  have hw : (Lit.int .u64 ((n : Nat) : Int)).wf = true := by
    simp [Lit.wf, IntKind.min, IntKind.max, IntKind.bits, IntKind.signed]
    omega
  exact Maps.keyOf_int_mk Try.underlying33 hw
theorem zero_b (w : World) : (zeroValue 30).run Try.prog w = .ok (.slice none 0 0) w := by
  obtain ⟨i, hi, hz, -, -⟩ := info_g Try.infoBs
  simp [zeroValue, typeInfo, hi, hz, go_sem]

section
variable {Z : Nat → Prop} {W : World} {p q M : Nat} {S : Dk}

theorem next_any (h : DkAt Z W p q M S) : Calls Try.prog 26 #[.pointer (some ⟨p, 0, none⟩)] W fun e w' => e = .returned (.int .u64 (S.next : Nat)) ∧ w' = W := by
  obtain ⟨E, h, -⟩ := h
  obtain ⟨c0, c1, c2⟩ := h.cells
  clear h
  go_enter Try.func26, Try.ntmps26
  go_wp2_with fail
  go_ret
  exact ⟨rfl, rfl⟩

theorem within_any {win next num : Nat} {E : List (Nat × Bd)} (h : DkV Z W p q M win next E) (hn : num < 18446744073709551616) (hx : next ≤ 1000000) (b : Bool) (hb : (decide (next ≤ num) && decide (num - next < win)) = b) :
    Calls Try.prog 39 #[.pointer (some ⟨p, 0, none⟩), .int .u64 (num : Nat)] W fun e w' => e = .returned (.bool b) ∧ ∃ k, w' = W.drewN k := by
  obtain ⟨c0, c1, c2⟩ := h.cells
  clear h
  by_cases h1 : next ≤ num
  · obtain ⟨d, hd⟩ : ∃ d, d = num - next := ⟨_, rfl⟩
    have wd : IntKind.u64.wrap ((num : Int) - (next : Int)) = (d : Int) := by
      simp only [IntKind.wrap, IntKind.bits, IntKind.signed]
      simp
      omega
    have g1 : decide ((num : Int) ≥ (next : Int)) = true := decide_eq_true (by omega)
    have g2 : decide (next ≤ num) = true := decide_eq_true h1
    rw [g2, ← hd, Bool.true_and] at hb
    have g3 : decide ((d : Int) < (win : Int)) = b := by rw [← hb]; simp
    clear hd h1
    go_enter Try.func39, Try.ntmps39
    go_wp2_with fail
    go_quiet (fail)
    go_wp2_with fail
    go_ret
    exact ⟨by first | rfl | simp_all, _, rfl⟩
  · have g1 : decide ((num : Int) ≥ (next : Int)) = false := decide_eq_false (by omega)
    have g2 : decide (next ≤ num) = false := decide_eq_false h1
    rw [g2, Bool.false_and] at hb
    subst hb
    clear h1
    go_enter Try.func39, Try.ntmps39
    go_wp2_with fail
    go_quiet (fail)
    go_wp2_with fail
    go_ret
    exact ⟨rfl, _, rfl⟩

end
end Go.Proofs.Ytfbojcaedcimcaa

/-
  New; is a number held?
-/
namespace Go.Proofs.Ytfbojcaedcimcaa
open Go.RowKit

/-- A new one. -/
def DkNewPost (W : World) (win : Nat) (e : Ending) (w : World) : Prop :=
  ∃ p q, e = .returned (.tuple #[.pointer (some ⟨p, 0, none⟩), .int .i64 0]) ∧ (∀ Z : Nat → Prop, DkAt Z w p q w.heap.size (Dk.new win)) ∧ W.heap.size ≤ p ∧ W.heap.size ≤ q ∧ Below W.heap.size W w

theorem new_bad (z : Int) (W : World) (hz : z < 1 ∨ 16 < z) : Calls Try.prog 16 #[.int .i64 z] W fun e w' => e = .returned (.tuple #[.pointer none, .int .i64 1]) ∧ w' = W := by
  go_enter Try.func16, Try.ntmps16
  by_cases h : z < 1
  · have d1 : decide (z < 1) = true := decide_eq_true h
    clear h hz
    go_wp2_with fail
    go_ret2
    exact ⟨rfl, rfl⟩
  · have d1 : decide (z < 1) = false := decide_eq_false h
    have d2 : decide (z > 16) = true := decide_eq_true (by omega)
    clear h hz
    go_wp2_with fail
    go_ret2
    exact ⟨rfl, rfl⟩

theorem new_any (win : Nat) (W : World) (h1 : 1 ≤ win) (h2 : win ≤ 16) : Calls Try.prog 16 #[.int .i64 (win : Nat)] W (DkNewPost W win) := by
  have hmm := @run_makeMap Try.prog
  have P := Lib.hid (show DkNewPost W win (.returned (.tuple #[.pointer (some ⟨W.heap.size + 1, 0, none⟩), .int .i64 0])) ((W.alloc (.map #[] 0)).alloc (.cells #[.int .u64 ((win : Nat) : Int), .int .u64 1, .map (some W.heap.size)] 73)) from by
    have hc := Cel.new (W.alloc (.map #[] 0)) [.int .u64 ((win : Nat) : Int), .int .u64 1, .map (some W.heap.size)] 73
    rw [World.size_alloc] at hc
    have hb : Below W.heap.size W (W.alloc (.map #[] 0)) := (Below.refl _ _).alloc (Nat.le_refl _) _
    refine ⟨W.heap.size + 1, W.heap.size, rfl, fun Z => ⟨[], ⟨hc.conv (fun o ho => ?_), by simp, by simp; omega, by omega, Nat.le_refl _, ⟨.map [], ?_, vw_nil⟩, fun x hx => by cases hx⟩, rfl⟩, by omega, Nat.le_refl _, hb.alloc (by simp) _⟩
    · match o, ho with
      | 0, _ => rfl
      | 1, _ => rfl
      | 2, _ => rfl
    · exact (World.ownsMap_made W Try.prog 33 anyR).alloc _)
  have d1 : decide ((win : Int) < 1) = false := decide_eq_false (by omega)
  have d2 : decide ((win : Int) > 16) = false := decide_eq_false (by omega)
  have wn : IntKind.u64.wrap (win : Int) = (win : Int) := by
    simp only [IntKind.wrap, IntKind.bits, IntKind.signed]
    simp
    omega
  clear h1 h2
  go_enter Try.func16, Try.ntmps16
  go_wp2_with fail
  go_ret2
  exact P.out

section
variable {Z : Nat → Prop} {W : World} {p q M : Nat} {S : Dk}
theorem holds_any {win next num : Nat} {E : List (Nat × Bd)} (h : DkV Z W p q M win next E) (hn : num < 18446744073709551616) (b : Bool) (hb : (E.lookup num).isSome = b) :
    Calls Try.prog 40 #[.pointer (some ⟨p, 0, none⟩), .int .u64 (num : Nat)] W fun e w' => e = .returned (.bool b) ∧ w' = W := by
  obtain ⟨c0, c1, c2⟩ := h.cells
  obtain ⟨D, hD, hV⟩ := h.map
  obtain ⟨v, ps, hrun, -⟩ := hD.look_ok keyed Try.underlying71 (zero_b W) (R := anyR) rfl (keyOf_n hn)
  rw [hV.has, hb] at hrun
  unfold uN at hrun
  clear h hD hV hb
  go_enter Try.func40, Try.ntmps40
  go_wp2_with fail
  go_ret
  exact ⟨rfl, rfl⟩
end
end Go.Proofs.Ytfbojcaedcimcaa

/-
  What goes on.
-/
namespace Go.Proofs.Ytfbojcaedcimcaa
open Go.RowKit

/-- Bodies, in a row. -/
def UpR (Z : Nat → Prop) (M : Nat) (w : World) (v : Value) (ss : List ByteArray) : Prop :=
  ∃ (a : Option Addr) (cap : Nat) (L : List Bd), v = .slice a L.length cap ∧ L.map Bd.s = ss ∧ RowV (fun k => M ≤ k ∧ Z k) w a cap L.length 1 (L.map bdV) ∧ ∀ b ∈ L, BodyV (fun k => M ≤ k ∧ Z k) w b
theorem UpR.below {Z : Nat → Prop} {M : Nat} {w w' : World} {v : Value} {ss : List ByteArray} (h : UpR Z M w v ss) (hb : Below w.heap.size w w') : UpR Z M w' v ss := by
  obtain ⟨a, cap, L, h1, h2, h3, h4⟩ := h
  exact ⟨a, cap, L, h1, h2, h3.below hb, fun b hb' => (h4 b hb').below hb⟩
theorem UpR.keep {Z : Nat → Prop} {M : Nat} {w w' : World} {v : Value} {ss : List ByteArray} {F : Nat → Prop} (h : UpR Z M w v ss) (hk : Keep F w w') (hF : ∀ k, k < w.heap.size → M ≤ k ∧ Z k → ¬ F k) : UpR Z M w' v ss := by
  obtain ⟨a, cap, L, h1, h2, h3, h4⟩ := h
  exact ⟨a, cap, L, h1, h2, h3.carry hk.size (fun k a b => hk.block k a (hF k a b)), fun b hb' => (h4 b hb').carry hk.size (fun k a b => hk.block k a (hF k a b))⟩
theorem UpR.none (Z : Nat → Prop) (M : Nat) (w : World) : UpR Z M w (.slice none 0 0) [] := ⟨Option.none, 0, [], rfl, rfl, RowV.none _ _ _, fun b hb => by cases hb⟩

def PQ (p q : Nat) : Nat → Prop := fun k => k = p ∨ k = q

/-- Between two rounds. -/
def GoRel (Z : Nat → Prop) (W : World) (p q M win next hi : Nat) (E : List (Nat × Bd)) (v : Value) (wr : World) : Prop :=
  ∃ (n2 : Nat) (E2 : List (Nat × Bd)) (L : List Bd), wr.ownsRow W.heap.size 30 1 v L.length (L.map bdV) ∧ (∀ b ∈ L, BodyV (fun k => (M ≤ k ∧ Z k) ∧ k < W.heap.size) wr b) ∧ (∀ x ∈ E2, BodyV (fun k => (M ≤ k ∧ Z k) ∧ k < W.heap.size) wr x.2) ∧
    DkV Z wr p q M win n2 E2 ∧ Up n2 hi E2 ∧ n2 ≤ hi ∧ goN next E = (L ++ (goN n2 E2).1, (goN n2 E2).2) ∧ n2 = next + L.length ∧ Keep (PQ p q) W wr

def GoPost (Z : Nat → Prop) (W : World) (p q M win next : Nat) (E : List (Nat × Bd)) (e : Ending) (w : World) : Prop :=
  ∃ v, e = .returned v ∧ UpR Z M w v ((goN next E).1.map Bd.s) ∧ DkV Z w p q M win (next + (goN next E).1.length) (goN next E).2 ∧ Keep (PQ p q) W w

section
variable {Z : Nat → Prop} {W wr : World} {p q M win next hi n2 : Nat} {E E2 : List (Nat × Bd)} {L : List Bd}

theorem go_done {v : Value} (hO : wr.ownsRow W.heap.size 30 1 v L.length (L.map bdV)) (hL : ∀ b ∈ L, BodyV (fun k => (M ≤ k ∧ Z k) ∧ k < W.heap.size) wr b) (hD : DkV Z wr p q M win n2 E2) (hM : M ≤ W.heap.size) (hZ : ∀ k, W.heap.size ≤ k → Z k)
    (hU : Up n2 hi E2) (hg : goN next E = (L ++ (goN n2 E2).1, (goN n2 E2).2)) (hn : n2 = next + L.length) (hK : Keep (PQ p q) W wr) (hs : E2.lookup n2 = none) : GoPost Z W p q M win next E (.returned v) wr := by
  rw [(up_none hU hs).2, List.append_nil] at hg
  refine ⟨v, rfl, ?_, by rw [hg, ← hn]; exact hD, hK⟩
  rw [hg]
  obtain ⟨a, cap, e, hr⟩ := own_row hO
  exact ⟨a, cap, L, e, rfl, hr.mono (fun k _ hk => ⟨Nat.le_trans hM (hO.lt k hk).1, hZ k (hO.lt k hk).1⟩), fun b hb => (hL b hb).mono (fun k _ h => h.1)⟩

theorem go_step {a : Option Addr} {cap g2 cap2 : Nat} {b : Bd} {t : List (Nat × Bd)} {w2 w3 w4 : World} {D : DataW Value} {o : Obj} (hO : wr.ownsRow W.heap.size 30 1 (.slice a L.length cap) L.length (L.map bdV))
    (hL : ∀ b ∈ L, BodyV (fun k => (M ≤ k ∧ Z k) ∧ k < W.heap.size) wr b) (hE : ∀ x ∈ (n2, b) :: t, BodyV (fun k => (M ≤ k ∧ Z k) ∧ k < W.heap.size) wr x.2) (hD : DkV Z wr p q M win n2 ((n2, b) :: t)) (hM : M ≤ W.heap.size)
    (hU : Up n2 hi ((n2, b) :: t)) (hg : goN next E = (L ++ (goN n2 ((n2, b) :: t)).1, (goN n2 ((n2, b) :: t)).2)) (hn : n2 = next + L.length) (hK : Keep (PQ p q) W wr)
    (hown : w2.ownsRow W.heap.size 30 1 (.slice (some ⟨g2, 0, none⟩) (L.length + 1) cap2) (L.length + 1) (L.map bdV ++ [bdV b])) (hgr : (wr.alloc o).grownBy w2 (Value.slice a L.length cap).ownBlock)
    (hV : Vw D ((n2, b) :: t)) (hm : w3.ownsMap Try.prog 33 anyR q ((n2, b) :: t).length (D.del (kN n2))) (hT : Maps.Tidy D) (ht : w2.mapTurned w3 q) (h4 : Alike (w3.setCell ⟨p, 1, none⟩ (.int .u64 ((n2 + 1 : Nat) : Int))) w4) :
    GoRel Z W p q M win next hi E (.slice (some ⟨g2, 0, none⟩) (L.length + 1) cap2) w4 := by
  have hrow : ∀ j, (Value.slice a L.length cap).ownBlock = some j → W.heap.size ≤ j ∧ j < wr.heap.size := hO.lt
  have hsz := hK.size
  have hpM := hD.pM
  have hqM := hD.qM
  have k2 : Keep (fun k => (Value.slice a L.length cap).ownBlock = some k) wr w2 := ((Keep.refl _ wr).alloc o).grown hgr (fun k h => Or.inl h)
  have k3 : Keep (fun k => (Value.slice a L.length cap).ownBlock = some k ∨ k = q) wr w3 := (k2.mono (fun i h => Or.inl h)).grown ht.grown (fun k h => Or.inl (Or.inr (by cases h; rfl)))
  have k4 : Keep (fun k => (Value.slice a L.length cap).ownBlock = some k ∨ k = q ∨ k = p) wr w4 := h4.keep (Keep.setCell (F := fun k => (Value.slice a L.length cap).ownBlock = some k ∨ k = q ∨ k = p) (k3.mono (fun i h => h.elim Or.inl (fun e => Or.inr (Or.inl e)))) (p := ⟨p, 1, none⟩) (Or.inr (Or.inr rfl)) _)
  have hcar : ∀ k, k < wr.heap.size → ((M ≤ k ∧ Z k) ∧ k < W.heap.size) → w4.heap[k]? = wr.heap[k]? := fun k hk h => k4.block k hk (fun f => by
    rcases f with f | f | f
    · have := (hrow k f).1; omega
    · omega
    · omega)
  have hc := hD.c
  have hne := hD.ne
  have c2 := hc.keep k2 (fun f => by have := (hrow p f).1; omega)
  have c3 : Cel 3 w3 p (dkC win n2 q) := by
    refine Cel.keep (F := fun k => k = q) c2 ?_ hne
    exact ((Keep.refl _ w2)).grown ht.grown (fun k h => Or.inl (by cases h; rfl))
  have hq3 : w3.heap[q]? = w4.heap[q]? := by
    have e1 : w4.heap[q]? = (w3.setCell ⟨p, 1, none⟩ (.int .u64 ((n2 + 1 : Nat) : Int))).heap[q]? := by rw [h4.1]
    rw [e1]
    exact (Below.heap_setCell _ ⟨p, 1, none⟩ _ _ (fun e => hne e.symm)).symm
  have c4 : Cel 3 w4 p (dkC win (n2 + 1) q) := by
    refine Cel.conv (Cel.keep (F := fun _ => False) (c3.put 1 (.int .u64 ((n2 + 1 : Nat) : Int))) (h4.keep (Keep.refl _ _)) id) (fun o ho => ?_)
    match o, ho with
    | 0, _ => rfl
    | 1, _ => rfl
    | 2, _ => rfl
  have hV2 := hV.del hT hU
  have hm4 : w4.ownsMap Try.prog 33 anyR q t.length (D.del (kN n2)) := ownsMap_tight (ownsMap_block hm hq3.symm) hV2.size
  have hg2 := hown.lt g2 rfl
  have own4 : w4.ownsRow W.heap.size 30 1 (.slice (some ⟨g2, 0, none⟩) (L.length + 1) cap2) (L.length + 1) (L.map bdV ++ [bdV b]) := by
    refine own_carry hown (fun k hk => ?_)
    have hk2 := (hown.lt k hk).1
    have e1 : w4.heap[k]? = (w3.setCell ⟨p, 1, none⟩ (.int .u64 ((n2 + 1 : Nat) : Int))).heap[k]? := by rw [h4.1]
    rw [e1, Below.heap_setCell _ ⟨p, 1, none⟩ _ _ (by show k ≠ p; omega)]
    exact ht.grown.block k (hown.lt k hk).2 (fun e => by cases e; omega)
  refine ⟨n2 + 1, t, L ++ [b], ?_, ?_, ?_, ⟨c4, hpM, hqM, hne, Nat.le_trans hD.size k4.size, ⟨_, hm4, hV2⟩, fun x hx => ?_⟩, hU.tail, ?_, ?_, ?_, ?_⟩
  · rw [List.length_append, List.map_append]
    exact own4
  · intro x hx
    rcases List.mem_append.1 hx with hx | hx
    · exact (hL x hx).carry k4.size hcar
    · obtain rfl := List.mem_singleton.1 hx
      exact (hE (n2, x) (List.mem_cons_self ..)).carry k4.size hcar
  · exact fun x hx => (hE x (List.mem_cons_of_mem _ hx)).carry k4.size hcar
  · exact ((hE x (List.mem_cons_of_mem _ hx)).carry k4.size hcar).mono (fun k _ h => h.1)
  · exact (hU.2 (n2, b) (List.mem_cons_self ..)).2
  · rw [hg, goN_first, List.append_assoc]
    rfl
  · rw [List.length_append, List.length_singleton]; omega
  · refine hK.trans k4 (fun i hi f => ?_)
    rcases f with f | f | f
    · have := (hrow i f).1; omega
    · exact Or.inr f
    · exact Or.inl f

set_option maxRecDepth 20000 in
set_option maxHeartbeats 4000000 in
theorem goOn_any (h : DkV Z W p q M win next E) (hU : Up next hi E) (hn : next ≤ hi) (hh : hi ≤ 1000000) (hl : E.length ≤ 1000) (hZ : ∀ k, W.heap.size ≤ k → Z k) :
    Calls Try.prog 42 #[.pointer (some ⟨p, 0, none⟩)] W (GoPost Z W p q M win next E) := by
  obtain ⟨i0, hi0, hz0, hz1, hz2⟩ := info_g Try.infoBs
  have H := Lib.hid h
  have U := Lib.hid hU
  have hM := h.size
  have B0 := Lib.hid (show ∀ x ∈ E, BodyV (fun k => (M ≤ k ∧ Z k) ∧ k < W.heap.size) W x.2 from fun x hx => (h.body x hx).mono (fun k hk h => ⟨h, hk⟩))
  have LE := Lib.hid hl
  have HZ := Lib.hid hZ
  clear h hU hl hZ
  go_enter Try.func42, Try.ntmps42
  go_wp2_with fail
  go_loopw [3] (fun v wr => GoRel Z W p q M win next hi E v wr) (fun _ wr => hi - (match wr.cell? ⟨p, 1, none⟩ with | some v => (intOf v).toNat | none => 0))
  case atStart => exact ⟨next, E, [], World.ownsRow_nil .., (fun b hb => by cases hb), B0.out, H.out, U.out, hn, by simp, rfl, Keep.refl _ _⟩
  case round =>
    obtain ⟨n2, E2, L, hO, hL, hE, hD, hU, hnh, hg, hn2, hK⟩ := hrel
    obtain ⟨c0, c1, c2⟩ := hD.cells
    obtain ⟨a, cap, rfl⟩ := own_form hO
    cases hs : E2.lookup n2 with
    | none =>
      have C := Lib.hid (holds_any hD (show n2 < 18446744073709551616 by omega) false (by rw [hs]; rfl))
      have R := Lib.hid (go_done hO hL hD hM HZ.out hU hg hn2 hK hs)
      clear hO hL hE hD hg hK hs hn2 hU
      go_wp2_with (go_at_call 40; refine C.out.mono ?_; rintro e w' ⟨rfl, rfl⟩)
      go_ret
      exact R.out
    | some b =>
      obtain ⟨t, rfl⟩ := up_first hU hs
      have C := Lib.hid (holds_any hD (show n2 < 18446744073709551616 by omega) true (by rw [hs]; rfl))
      obtain ⟨D, hm, hV⟩ := hD.map
      have hT := hm.tidy keyed
      have hkey := keyOf_n (show n2 < 18446744073709551616 by omega)
      obtain ⟨v, ps, hrun, hat⟩ := (show wr.drew.ownsMap Try.prog 33 anyR q _ D from hm).lookup keyed Try.underlying71 (zero_b wr.drew) (R := anyR) rfl hkey
      rw [hV.look, hs] at hat
      unfold anyR at hat
      simp only [Option.some.injEq, Prod.mk.injEq, DataW.held.injEq] at hat
      obtain ⟨rfl, -⟩ := hat
      unfold uN bdV at hrun
      have hnlt : n2 < hi := (hU.2 (n2, b) (List.mem_cons_self ..)).2
      have hL2 : L.length ≤ 1000000 := by omega
      have dw := drew_below wr
      have GS := Lib.hid (fun (g2 cap2 : Nat) (w2 w3 w4 : World) (o : Obj) hown hgr hm ht h4 => go_step (wr := wr.drew) (w2 := w2) (w3 := w3) (w4 := w4) (o := o) (g2 := g2) (cap2 := cap2) (own_below hO dw) (fun b hb => (hL b hb).below dw) (fun x hx => (hE x hx).below dw) (hD.below dw) hM hU hg hn2 (hK.trans (Keep.ofBelow (F := fun _ => False) dw) (fun _ _ f => f.elim)) hown hgr hV hm hT ht h4)
      have O1 := Lib.hid (own_below hO dw)
      have DV := Lib.hid (hD.below dw)
      have HW := Lib.hid hK.size
      have HM := Lib.hid hm
      have HK := Lib.hid hkey

      clear hO hL hE hD hg hK hs hn2 hU hV hT hm hkey dw
      obtain ⟨nL, hnL⟩ : ∃ x, x = L.length := ⟨_, rfl⟩
      rw [← hnL] at O1 GS hL2 ⊢
      have NL := Lib.hid hnL
      clear hnL
      go_wp2_with (go_at_call 40; refine C.out.mono ?_; rintro e w' ⟨rfl, hw⟩; have hw2 := hw.symm; clear hw; subst hw2)
      have d1 : wr.drew.cell? ⟨p, 1, none⟩ = some (.int .u64 ((n2 : Nat) : Int)) := c1
      have d2 : wr.drew.cell? ⟨p, 2, none⟩ = some (.map (some q)) := c2
      have wn : IntKind.u64.wrap ((n2 : Int) + 1) = ((n2 + 1 : Nat) : Int) := by
        simp only [IntKind.wrap, IntKind.bits, IntKind.signed]
        simp
        omega
      go_region_law (refine step_append_lies _ rfl (.tmp 10) (.tmp 20) 27 rfl W.heap.size 30 i0 _ 1 24 Try.underlying27 hi0 hz0 hz1 hz2 rfl (by decide) _ _ _ (by simp [Act.eval]) (World.ownsRow.alloc O1.out _) ⟨wr.heap.size, 0, none⟩ 1 1 [bdV b] (by simp [Act.eval]) rfl (World.news_of_block (heap_alloc_new _ _)) (by simp [Value.oneCell', bdV]) (by omega) (by unfold maxLen; omega) (by omega) (by have := HW.out; simp; omega) _ rfl ?_; intro g2 cap2 w2 hown2 hgr2 hat2 hlt2)
      all_goals
        have k2 : Keep (fun k => (Value.slice a nL cap).ownBlock = some k) wr.drew w2 := ((Keep.refl _ wr.drew).alloc _).grown hgr2 (fun k h => Or.inl h)
        have hrow : ∀ k, (Value.slice a nL cap).ownBlock = some k → W.heap.size ≤ k := fun k h => (O1.out.lt k h).1
        have hpW : p < W.heap.size := Nat.lt_of_lt_of_le DV.out.pM hM
        have hqW : q < W.heap.size := Nat.lt_of_lt_of_le DV.out.qM hM
        have C2 := DV.out.c.keep k2 (fun f => by have := hrow p f; omega)
        have m2 : w2.drew.ownsMap Try.prog 33 anyR q _ D := ownsMap_block HM.out (k2.block q (by have := HW.out; show q < wr.heap.size; omega) (fun f => by have := hrow q f; omega))
        obtain ⟨w3, hdel, hm3, ht3⟩ := m2.drop keyed Try.underlying71 HK.out 0
        unfold uN at hdel
        have C3 : Cel 3 w3 p (dkC win n2 q) := Cel.keep (F := fun k => k = q) (C2.drew) ((Keep.refl _ w2.drew).grown ht3.grown (fun k h => Or.inl (by cases h; rfl))) DV.out.ne
        have e1 : w2.drew.cell? ⟨p, 1, none⟩ = some (.int .u64 ((n2 : Nat) : Int)) := C2.drew.c 1 (by decide)
        have e2 : w2.drew.cell? ⟨p, 2, none⟩ = some (.map (some q)) := C2.drew.c 2 (by decide)
        have f1 : w3.cell? ⟨p, 1, none⟩ = some (.int .u64 ((n2 : Nat) : Int)) := C3.c 1 (by decide)
        have f2 : w3.frozen? ⟨p, 1, none⟩ = false := C3.fz 1
        have G := Lib.hid (fun w4 h4 => GS.out g2 cap2 w2.drew w3 w4 _ hown2 ⟨hgr2.os, hgr2.tape, hgr2.output, hgr2.size, hgr2.block⟩ hm3 ht3 h4)
        clear k2 C2 m2 hm3 ht3 C3 hgr2 hown2 hat2 hlt2
        go_wp2_with fail
        try go_simp
        go_region
      all_goals go_wp2_with fail
      all_goals go_roundw
      all_goals first
        | exact G.out _ ⟨rfl, rfl, rfl, rfl⟩
        | (rw [World.cell?_setCell_same _ _ _ f1, c1]; simp only [intOf]; omega)
end

end Go.Proofs.Ytfbojcaedcimcaa

/-
  Take; Held.
-/
namespace Go.Proofs.Ytfbojcaedcimcaa
open Go.RowKit

/-- What Take leaves. -/
def TakePost (Z : Nat → Prop) (W : World) (p q M : Nat) (S : Dk) (num : Nat) (s : ByteArray) (e : Ending) (w : World) : Prop :=
  ∃ v, e = .returned (.tuple #[v, .bool (S.may num)]) ∧ UpR Z M w v (S.gave num s) ∧ DkAt Z w p q M (S.came num s) ∧ Keep (PQ p q) W w

section
variable {Z : Nat → Prop} {W : World} {p q M : Nat} {S : Dk}

theorem take_in {win next num : Nat} {E : List (Nat × Bd)} {b : Bd} {w1 w2 : World} {D : DataW Value} (h : DkV Z W p q M win next E) (hb : Below W.heap.size W w1) (hB : BodyV (fun k => W.heap.size ≤ k) w1 b) (hZ : ∀ k, W.heap.size ≤ k → Z k) (hV : Vw D E) (hT : Maps.Tidy D) (hn : E.lookup num = none)
    (hm : w2.ownsMap Try.prog 33 anyR q (E.length + 1) (D.put (kN num) (.held (bdV b)))) (ht : w1.mapTurned w2 q) : DkV Z w2 p q M win next (ins num b E) ∧ Keep (PQ p q) W w2 := by
  have k1 : Keep (fun k => k = q) W w2 := (Keep.ofBelow (F := fun k => k = q) hb).grown ht.grown (fun k h => Or.inl (by cases h; rfl))
  have hM := h.size
  have hqM := h.qM
  refine ⟨⟨h.c.keep k1 h.ne, h.pM, h.qM, h.ne, Nat.le_trans h.size k1.size, ⟨_, by rw [ins_len]; exact hm, hV.put hT num b hn⟩, fun x hx => ?_⟩, k1.mono (fun i e => Or.inr e)⟩
  rcases ins_mem.1 hx with rfl | hx
  · refine ((hB.mono (fun k _ hk => ⟨Nat.le_trans hM hk, hZ k hk⟩)).carry ht.grown.size (fun k hk hk2 => ht.grown.block k hk (fun e => ?_)))
    cases e
    omega
  · refine (h.body x hx).carry k1.size (fun k hk hk2 => k1.block k hk (fun e => by omega))

set_option maxRecDepth 20000 in
set_option maxHeartbeats 4000000 in
theorem take_any {c num : Nat} {b : Bd} {A : Nat → Prop} (h : DkAt Z W p q M S) (hS : S.ok c) (hc : c ≤ 1000) (hn : num < 18446744073709551616) (hB : BodyV A W b) (hs : b.s.size ≤ 140737488355328) (hZ : ∀ k, W.heap.size ≤ k → Z k) :
    Calls Try.prog 20 #[.pointer (some ⟨p, 0, none⟩), .int .u64 (num : Nat), .slice b.a b.s.size b.c] W (TakePost Z W p q M S num b.s) := by
  obtain ⟨E, hE, hH⟩ := h
  have hnx := hS.next
  have hwin := hS.win
  have LK : S.held.lookup num = (E.lookup num).map Bd.s := by rw [← hH, mapN_lookup]
  obtain ⟨b1, hb1⟩ : ∃ x, (decide (S.next ≤ num) && decide (num - S.next < S.win)) = x := ⟨_, rfl⟩
  obtain ⟨b2, hb2⟩ : ∃ x, (E.lookup num).isSome = x := ⟨_, rfl⟩
  have HM : S.may num = (b1 && !b2) := by
    unfold Dk.may
    rw [hb1, LK, ← hb2]
    cases E.lookup num <;> rfl
  have C1 := Lib.hid (within_any hE hn (show S.next ≤ 1000000 by omega) b1 hb1)
  have C2 := Lib.hid (fun k => holds_any (hE.below (show Below W.heap.size W (W.drewN k) from ⟨rfl, rfl, rfl, Nat.le_refl _, fun _ _ => rfl⟩)) hn b2 hb2)
  have HE := Lib.hid hE
  have HZ := Lib.hid hZ
  have HB := Lib.hid hB
  have HS := Lib.hid hS
  have HH := Lib.hid hH
  have BK : ∀ k, Below W.heap.size W (W.drewN k) := fun k => ⟨rfl, rfl, rfl, Nat.le_refl _, fun _ _ => rfl⟩
  have NO := Lib.hid (fun (k : Nat) (hm : S.may num = false) => show TakePost Z W p q M S num b.s (.returned (.tuple #[.slice none 0 0, .bool (S.may num)])) (W.drewN k) from by
    have h1 : S.gave num b.s = [] := by unfold Dk.gave; rw [hm]; rfl
    have h2 : S.came num b.s = S := by unfold Dk.came; rw [hm]; rfl
    refine ⟨_, rfl, ?_, ?_, (Keep.refl _ W).drewN k⟩
    · rw [h1]; exact UpR.none Z M _
    · rw [h2]; exact ⟨E, hE.below (BK k), hH⟩)
  clear hE hB hS hH LK hb1
  go_enter Try.func20, Try.ntmps20
  cases b1
  · have hm : S.may num = false := HM
    have NO2 := Lib.hid (fun k => NO.out k hm)
    rw [hm] at NO2
    clear HM NO
    go_wp2_with (go_at_call 39; refine C1.out.mono ?_; rintro e w' ⟨rfl, k, rfl⟩)
    go_ret2
    exact NO2.out k
  · cases b2
    · have hm : S.may num = true := HM
      obtain ⟨h1, h2, h3⟩ := Dk.may_is.1 hm
      have hEn : E.lookup num = none := by
        cases he : E.lookup num with
        | none => rfl
        | some v => rw [he] at hb2; cases hb2
      have UE := Lib.hid (fun (b1 : Bd) (e1 : b1.s = b.s) => show Up S.next (S.next + S.win) (ins num b1 E) from mapN_up (f := Bd.s) (by rw [mapN_ins, HH.out, e1]; exact HS.out.ins hm b.s))
      obtain ⟨D, hD, hV⟩ := HE.out.map
      have hT := hD.tidy keyed
      have HD := Lib.hid hD
      have T := Lib.hid (fun (w0 : World) (h0 : Below W.heap.size W w0) (b1 : Bd) (w1 w2 : World) h4 h5 h6 h7 => take_in (w1 := w1) (w2 := w2) (b := b1) (HE.out.below h0) h4 h5 (fun k hk => hZ k (Nat.le_trans h0.size hk)) hV hT hEn h6 h7)
      have EL : E.length ≤ 15 := by
        have := HS.out.len.1
        rw [← HH.out, mapN_len] at this
        exact this
      have YES := Lib.hid (fun (k : Nat) (b1 : Bd) (w2 w3 : World) (e1 : b1.s = b.s) (hK : Keep (PQ p q) W w2) (v : Value) (h4 : UpR Z M w3 v ((goN S.next (ins num b1 E)).1.map Bd.s)) (h5 : DkV Z w3 p q M S.win (S.next + (goN S.next (ins num b1 E)).1.length) (goN S.next (ins num b1 E)).2) (h6 : Keep (PQ p q) w2 w3) =>
        show TakePost Z W p q M S num b.s (.returned (.tuple #[v, .bool true])) w3 from by
          have e2 : goN S.next (ins num b.s S.held) = ((goN S.next (ins num b1 E)).1.map Bd.s, mapN Bd.s (goN S.next (ins num b1 E)).2) := by
            rw [← mapN_go, mapN_ins, HH.out, e1]
          refine ⟨v, by rw [hm], ?_, ⟨(goN S.next (ins num b1 E)).2, ?_, ?_⟩, hK.trans h6 (fun _ _ h => h)⟩
          · unfold Dk.gave Dk.went
            rw [hm, if_pos rfl, e2]
            exact h4
          · unfold Dk.came Dk.take Dk.went
            rw [hm, if_pos rfl, e2, List.length_map]
            exact h5
          · unfold Dk.came Dk.take
            rw [hm, if_pos rfl, e2])
      clear HM NO hb2 hV hT hD
      obtain ⟨c0, c1, c2⟩ := HE.out.cells
      clear c0 c1
      go_wp2_with (first
        | (go_at_call 39; refine C1.out.mono ?_; rintro e w' ⟨rfl, k, hw⟩; subst hw)
        | (go_at_call 40; refine (C2.out k).mono ?_; rintro e w' ⟨rfl, hw⟩; have hw2 := hw.symm; clear hw; subst hw2))
      have e2 : (W.drewN k).drew.cell? ⟨p, 2, none⟩ = some (.map (some q)) := c2
      have BD : Below W.heap.size W (W.drewN k).drew := ⟨rfl, rfl, rfl, Nat.le_refl _, fun _ _ => rfl⟩
      have hqW : q < W.heap.size := Nat.lt_of_lt_of_le HE.out.qM HE.out.size
      have EM : E.length < maxLen := by unfold maxLen; omega
      have HB2 := Lib.hid (HB.out.below BD)
      have HD2 := Lib.hid (ownsMap_block HD.out (BD.block q hqW))
      clear c2 C2 HB HD
      generalize W.drewN k = wk at *
      go_region_law (go_simp; go_at_call 41; refine (bclone_any wk.drew A b HB2.out (by omega)).mono ?_; rintro e w1 ⟨b1, hs1, rfl, hbd, hbl⟩; obtain ⟨w2, hst, hm2, ht2⟩ := (ownsMap_block HD2.out (hbl.block q (by have := BD.size; omega))).store keyed Try.underlying71 EM (keyOf_n hn) (R := anyR) (val := .slice b1.a b.s.size b1.c) rfl; have hst2 : (Instr.mapUpdate 71 (.map (some q)) (.int .u64 (num : Int)) (.slice b1.a b.s.size b1.c)).run Try.prog w1 = .ok () w2 := hst; have c1 : w1.cell? ⟨p, 2, none⟩ = some (.map (some q)) := (hbl.cell (p := ⟨p, 2, none⟩) (by have := HE.out.pM; have := HE.out.size; have := BD.size; show p < _; omega)).trans e2; have HT := Lib.hid (T.out wk.drew BD b1 w1 w2 hbl hbd (by unfold bdV; rw [hs1]; exact hm2) ht2); have HS1 := Lib.hid hs1; clear hst hm2 ht2 hbl hbd hs1)
      all_goals
        go_wp2_with fail
        try go_simp
        go_wp2_with (go_at_call 42; refine (goOn_any HT.out.1 (UE.out b1 HS1.out) (by omega) (by omega) (by rw [ins_len]; omega) (fun i hi => HZ.out i (by have := HT.out.2.size; have := BD.size; omega))).mono ?_; rintro e w3 ⟨v, rfl, h4, h5, h6⟩; have RR := Lib.hid (YES.out k b1 w2 w3 HS1.out ((Keep.ofBelow (F := PQ p q) BD).trans HT.out.2 (fun _ _ f => f)) v h4 h5 h6); clear h4 h5 h6)
        go_ret2
        exact RR.out
    · have hm : S.may num = false := HM
      have NO2 := Lib.hid (fun k => NO.out k hm)
      rw [hm] at NO2
      clear HM NO
      go_wp2_with (first
        | (go_at_call 39; refine C1.out.mono ?_; rintro e w' ⟨rfl, k, hw⟩; subst hw)
        | (go_at_call 40; refine (C2.out k).mono ?_; rintro e w' ⟨rfl, hw⟩; have hw2 := hw.symm; clear hw; subst hw2))
      go_ret2
      exact NO2.out k
end
end Go.Proofs.Ytfbojcaedcimcaa

/-
  Held.
-/
namespace Go.Proofs.Ytfbojcaedcimcaa
open Go.RowKit

/-- The numbers that are held. -/
def Dk.nums (S : Dk) : List Nat := S.held.map (·.1)
def HeldPost (W : World) (S : Dk) (e : Ending) (w : World) : Prop :=
  ∃ (a : Option Addr) (cap : Nat), e = .returned (.slice a S.nums.length cap) ∧ SlV w a cap (S.nums.map uN) ∧ (∀ ad, a = some ad → W.heap.size ≤ ad.block) ∧ Below W.heap.size W w

theorem nums_same {ns ms : List Nat} (h1 : ns.Pairwise (· < ·)) (h2 : ms.Pairwise (· < ·)) (h : ∀ x, x ∈ ns ↔ x ∈ ms) : ns = ms := by
  refine List.Perm.eq_of_pairwise (le := fun a b => a < b) (fun a b _ _ h3 h4 => by omega) h1 h2 ((List.perm_ext_iff_of_nodup ?_ ?_).2 h)
  · exact h1.imp (fun h => by omega)
  · exact h2.imp (fun h => by omega)

theorem nums_up {lo hi : Nat} {l : List (Nat × ByteArray)} (h : Up lo hi l) : (l.map (·.1)).Pairwise (· < ·) := by
  rw [List.pairwise_map]
  exact h.1
theorem mem_keys {β : Type} {n : Nat} {l : List (Nat × β)} : n ∈ l.map (·.1) ↔ (l.lookup n).isSome = true := by
  cases h : l.lookup n with
  | none =>
    have := lookup_none.1 h
    simp only [Option.isSome_none, Bool.false_eq_true, iff_false, List.mem_map]
    rintro ⟨x, hx, rfl⟩
    exact this x hx rfl
  | some b =>
    simp only [Option.isSome_some, iff_true, List.mem_map]
    induction l with
    | nil => simp at h
    | cons x t ih =>
      rw [lookup_cons'] at h
      by_cases e : n = x.1
      · exact ⟨x, List.mem_cons_self .., e.symm⟩
      · rw [if_neg e] at h
        obtain ⟨y, hy, e2⟩ := ih h
        exact ⟨y, List.mem_cons_of_mem _ hy, e2⟩

section
variable {Z : Nat → Prop} {W : World} {p q M : Nat} {S : Dk}
set_option maxHeartbeats 2000000 in
theorem held_any {c : Nat} (h : DkAt Z W p q M S) (hS : S.ok c) : Calls Try.prog 25 #[.pointer (some ⟨p, 0, none⟩)] W (HeldPost W S) := by
  obtain ⟨E, hE, hH⟩ := h
  obtain ⟨c0, c1, c2⟩ := hE.cells
  obtain ⟨D, hD, hV⟩ := hE.map
  have hl : Maps.size D ≤ 15 := by
    rw [hV.size, ← mapN_len Bd.s, hH]
    exact hS.len.1
  have hbx : Below W.heap.size W (W.alloc (.cells #[.map (some q)] 71)) := (Below.refl _ _).alloc (Nat.le_refl _) _
  have C := Lib.hid (sorted_any (Bm := W.heap.size) (R := anyR) (D := D) (W.alloc (.cells #[.map (some q)] 71)) (by simp) (by simp) (ownsMap_block hD (hbx.block q (Nat.lt_of_lt_of_le hE.qM hE.size))) hl)
  have E := Lib.hid (fun (w : World) (a : Option Addr) (cap : Nat) (ns : List Nat) (h1 : ns.Pairwise (· < ·)) (h2 : ∀ x, x ∈ ns ↔ Maps.has D (kN x) = true) (h3 : SlV w a cap (ns.map uN)) (h5 : ∀ ad, a = some ad → (W.alloc (.cells #[.map (some q)] 71)).heap.size ≤ ad.block) (h4 : Below (W.alloc (.cells #[.map (some q)] 71)).heap.size (W.alloc (.cells #[.map (some q)] 71)) w) =>
    show HeldPost W S (.returned (.slice a ns.length cap)) w from by
      have e : ns = S.nums := nums_same h1 (nums_up hS.up) (fun x => by
        rw [h2, hV.has, Dk.nums, mem_keys, ← hH, mapN_lookup, Option.isSome_map])
      subst e
      exact ⟨a, cap, rfl, h3, fun ad e => Nat.le_trans hbx.size (h5 ad e), hbx.trans (h4.mono hbx.size)⟩)
  clear hE hD hV hl hbx hH c0 c1
  go_enter Try.func25, Try.ntmps25
  go_wp2_with (first
    | (go_at_call 46; refine (keys_call (some q) W).mono ?_; rintro e w' ⟨rfl, rfl⟩)
    | (go_at_call 45; refine C.out.mono ?_; rintro e w' ⟨a, cap, ns, rfl, h1, h2, h3, h5, h4⟩; have RR := Lib.hid (E.out w' a cap ns h1 h2 h3 h5 h4); clear h1 h2 h3 h4 h5))
  go_ret
  exact RR.out
end
end Go.Proofs.Ytfbojcaedcimcaa
